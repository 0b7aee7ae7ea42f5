/- The contract of the program's reader for a list of entries; the text's length is a number of the language's, the reader stands within the text. -/
import Derived.Test.YtpefbmheblfbeaaGreatQc07
import Derived.Test.YtpefbmheblfbeaaGreatQc06
import Derived.Test.YtpefbmheblfbeaaGreatQc04
namespace Go.Proofs.YtpefbmheblfbeaaGreat.Sn
open Go.RowKit Go.Sort Go.Shelf Go.Maps Go.ChangeMaps Me
set_option linter.unusedVariables false
set_option linter.unusedSimpArgs false
def entR (s : ByteArray) (x : Rd) (c : Cf) (now : Int) (A : List K) : Rd × En :=
  ((outR s (numR s (keyR s x A).1 0 now).1 c).1, ((keyR s x A).2, ((outR s (numR s (keyR s x A).1 0 now).1 c).2, (numR s (keyR s x A).1 0 now).2)))
def entsR (s : ByteArray) (c : Cf) (now : Int) : Nat → Rd → List En → Rd × List En
  | 0, x, L => (x, L)
  | n + 1, x, L => if x.er = 0 then entsR s c now n (entR s x c now (keysL L)).1 (L ++ [(entR s x c now (keysL L)).2]) else (x, L)
theorem entsR_bad (s : ByteArray) (c : Cf) (now : Int) (n : Nat) (x : Rd) (L : List En) (h : x.er ≠ 0) : entsR s c now n x L = (x, L) := by
  cases n with
  | zero => rfl
  | succ n => rw [entsR, if_neg h]
theorem numR_er {s : ByteArray} {x : Rd} {a b : Int} (h : (numR s x a b).1.er = 0) : x.er = 0 := by
  by_cases he : x.er = 0
  · exact he
  · unfold numR at h
    rw [if_pos he] at h
    exact h
theorem passS_er {x : Rd} {n : Int} {b : Bool} (h : (passS x n b).er = 0) : x.er = 0 := by
  by_cases he : x.er = 0
  · exact he
  · unfold passS at h
    rw [if_pos he] at h
    exact h
theorem kindR_er {s : ByteArray} {x : Rd} {c : Cf} (h : (kindR s x c).1.er = 0) : x.er = 0 := by
  unfold kindR at h
  split at h
  · exact passS_er h
  · exact passS_er h
theorem outR_er {s : ByteArray} {x : Rd} {c : Cf} (h : (outR s x c).1.er = 0) : x.er = 0 := by
  unfold outR at h
  split at h
  · exact kindR_er (numR_er h)
  · exact kindR_er (numR_er (numR_er h))
theorem Rin.key {s : ByteArray} {x : Rd} (h : Rin s x) (A : List K) : Rin s (keyR s x A).1 := by
  unfold keyR
  cases ht : takK s x.at_ with
  | none => exact h.pass (fun e => by cases e)
  | some p =>
    have hb := takK_b (k := p.1) (n := p.2) ht
    simp only
    split
    · exact h.pass (fun e => by cases e)
    · exact h.pass (fun _ => by omega)
theorem Rin.out {s : ByteArray} {x : Rd} (h : Rin s x) (c : Cf) : Rin s (outR s x c).1 := by
  unfold outR
  split
  · exact (h.kind c).sig
  · exact ((h.kind c).sig).num _ _
theorem infoKk : (Tryz.prog.info? 60).map (fun i => (i.zero, i.size, i.bytes)) = some (some (.agg #[.int .u16 0, .string ⟨#[]⟩, .int .i64 0, .int .i64 0, .int .i64 0, .int .i64 0, .int .i64 0]), 7, 64) := by kernel_rfl
structure EnI (w : World) (r mb : Nat) (s : ByteArray) (c : Cf) (x : Rd) (L : List En) (v : Value) (wr : World) : Prop where
  t : Touch [r] w wr
  q : Rq wr r s x
  cb : wr.heap[w.heap.size]? = some (.cells #[.int .i64 c.t, .int .i64 c.n, .int .i64 c.s, .int .i64 c.e, .int .i64 c.f, .int .i64 c.b, .int .i64 c.d] 23 (0, 0))
  mt : mb < wr.heap.size
  ah : x.er = 0 → Ah wr mb (keysL L)
  o : wr.ownsRow (mb + 1) 60 7 v L.length (cellsN L)
theorem Ah.keep {w w' : World} {mb : Nat} {A : List K} (h : Ah w mb A) (hk : w'.heap[mb]? = w.heap[mb]?) : Ah w' mb A := by
  obtain ⟨f, h1, h2⟩ := h
  exact ⟨f, h1.kept hk, h2⟩
def slen : Value → Nat
  | .slice _ n _ => n
  | _ => 0
theorem EnI.step {w : World} {r mb : Nat} {s : ByteArray} {c : Cf} {x : Rd} {L : List En} {a : Option Addr} {cp : Nat} {wr w5 w7 w6 : World} (h : EnI w r mb s c x L (.slice a L.length cp) wr) (hr : r < w.heap.size) (hmb : w.heap.size < mb) (t5 : Touch [r, mb] wr w5) (t7 : Touch [r] w5 w7) {y : Rd} (q7 : Rq w7 r s y) {e : En} (hah : y.er = 0 → Ah w5 mb (keysL L ++ [e.1])) {a6 : Option Addr} {c6 : Nat} (o6 : w6.ownsRow (mb + 1) 60 7 (.slice a6 (L.length + 1) c6) (L.length + 1) (cellsN L ++ nl e)) (g6 : w7.grownBy w6 (Value.slice a L.length cp).ownBlock) : EnI w r mb s c y (L ++ [e]) (.slice a6 (L.length + 1) c6) w6 := by
  have T5 : Touch [r] w w5 := h.t.trans t5 (fun k hk => by simp at hk; rcases hk with rfl | rfl; exact Or.inl (by simp); exact Or.inr (by omega))
  have T7 : Touch [r] w w7 := T5.trans' t7
  have cb5 := t5.keep h.cb (by simp; omega)
  have cb7 := t7.keep cb5 (by simp; omega)
  have mt5 : mb < w5.heap.size := Nat.lt_of_lt_of_le h.mt t5.size
  have tg : Touch (Value.slice a L.length cp).ownBlock.toList w7 w6 := (Touch.refl _ w7).grown g6 (fun q hq => Or.inl (by simp [hq]))
  have far : ∀ k, k ∈ (Value.slice a L.length cp).ownBlock.toList → mb + 1 ≤ k := fun k hk => (h.o.lt k (by simpa using hk)).1
  refine ⟨T7.trans tg (fun k hk => Or.inr (by have := far k hk; omega)), tg.keep q7 (fun e => by have := far _ e; omega), tg.keep cb7 (fun e => by have := far _ e; omega), Nat.lt_of_lt_of_le mt5 (Nat.le_trans t7.size tg.size), fun he => ?_, ?_⟩
  · have := hah he
    rw [show keysL (L ++ [e]) = keysL L ++ [e.1] by simp [keysL]]
    refine this.keep ((tg.block mb (Nat.lt_of_lt_of_le mt5 t7.size) (fun e => by have := far _ e; omega)).trans (t7.block mb mt5 (by simp; omega)))
  · rw [List.length_append, cellsN_app, cellsN_one]; exact o6
theorem EnI.own {w : World} {r mb : Nat} {s : ByteArray} {c : Cf} {x : Rd} {L : List En} {a : Option Addr} {cp : Nat} {wr w5 w7 : World} (h : EnI w r mb s c x L (.slice a L.length cp) wr) (hr : r < w.heap.size) (hmb : w.heap.size < mb) (t5 : Touch [r, mb] wr w5) (t7 : Touch [r] w5 w7) : w7.ownsRow (mb + 1) 60 7 (.slice a L.length cp) L.length (cellsN L) ∧ mb + 1 ≤ w7.heap.size := by
  have far : ∀ k, (Value.slice a L.length cp).ownBlock = some k → mb + 1 ≤ k := fun k hk => (h.o.lt k hk).1
  refine ⟨own_touch (own_touch h.o t5 (fun b hb e => by have := far b hb; simp at e; omega)) t7 (fun b hb e => by have := far b hb; simp at e; omega), ?_⟩
  have := h.mt
  have := t5.size
  have := t7.size
  omega
set_option maxRecDepth 100000 in
set_option maxHeartbeats 4000000 in
theorem entries_r {w : World} {r : Nat} {s : ByteArray} {x : Rd} (h : Rq w r s x) (hi : Rin s x) (hs : s.size ≤ 140737488351232) (c : Cf) (hc : 0 ≤ c.e ∧ c.e ≤ 65536) (now : Int) (hn : 0 ≤ now ∧ now ≤ 9223372036854775807) : Calls Tryz.prog 47 #[PT r, cv c, .int .i64 now] w fun e w' => ∃ v, e = .returned v ∧ w'.ownsRow w.heap.size 60 7 v (entsR s c now (numR s x 0 c.e).2.toNat (numR s x 0 c.e).1 []).2.length (cellsN (entsR s c now (numR s x 0 c.e).2.toNat (numR s x 0 c.e).1 []).2) ∧ Rq w' r s (entsR s c now (numR s x 0 c.e).2.toNat (numR s x 0 c.e).1 []).1 ∧ Touch [r] w w' := by
  obtain ⟨V1, hV1⟩ : ∃ V1, V1 = w.alloc (.cells #[.int .i64 c.t, .int .i64 c.n, .int .i64 c.s, .int .i64 c.e, .int .i64 c.f, .int .i64 c.b, .int .i64 c.d] 23) := ⟨_, rfl⟩
  obtain ⟨V, hV⟩ : ∃ V, V = V1.alloc (.map #[] 0) := ⟨_, rfl⟩
  obtain ⟨mb, hmb⟩ : ∃ mb, mb = V1.heap.size := ⟨_, rfl⟩
  have T1 : Touch [] w V1 := by rw [hV1]; exact (Touch.refl _ _).alloc _
  have T2 : Touch [] V1 V := by rw [hV]; exact (Touch.refl _ _).alloc _
  have hb0 : V.heap[w.heap.size]? = some (.cells #[.int .i64 c.t, .int .i64 c.n, .int .i64 c.s, .int .i64 c.e, .int .i64 c.f, .int .i64 c.b, .int .i64 c.d] 23 (0, 0)) := T2.keep (by rw [hV1]; exact heap_alloc_new w _) (by simp)
  have hw1 : w.heap.size < mb := by rw [hmb, hV1]; simp
  have hmap : Ah V mb (keysL []) := ⟨fun _ => none, by rw [hV, hmb]; exact Me.mapAt_made V1, fun k _ => rfl⟩
  have hmv : mb < V.heap.size := by rw [hV, hmb]; simp
  have q0 : Rq V r s x := (h.keep0 T1).keep0 T2
  have hr := h.lt
  have H1 := hid (size_r q0 hi hs 0 c.e (by omega) (by omega) hc.1 (by omega))
  have hN0 : 0 ≤ (numR s x 0 c.e).2 ∧ (numR s x 0 c.e).2 ≤ 65536 := by
    unfold numR
    split
    · simp
    · split
      · split
        · rename_i p q hh
          exact ⟨by show (0 : Int) ≤ (_ : Nat); omega, by have := hh.2; omega⟩
        · simp
      · simp
  have j1 := hi.num 0 c.e
  generalize numR s x 0 c.e = a1 at *
  obtain ⟨N, hN⟩ : ∃ N : Nat, a1.2 = (N : Int) := ⟨a1.2.toNat, by omega⟩
  have hNb : N ≤ 65536 := by omega
  rw [hN] at H1
  have eN : a1.2.toNat = N := by omega
  rw [eN]
  have HTV := hid (T1.trans' T2)
  have KK := hid (fun w' y A (q : Rq w' r s y) (m : Ah w' mb A) (hy : Rin s y) (hA : A.length ≤ 65536) => key_r q m hy hs hA)
  have NN := hid (fun w' y (q : Rq w' r s y) (hy : Rin s y) => number_r q hy hs 0 now (by omega) (by omega) hn.1 hn.2)
  have OO := hid (fun w' y (q : Rq w' r s y) (hy : Rin s y) => outcome_r q hy hs c)
  have HI0 : Hid (∀ w1, Rq w1 r s a1.1 → Touch [r] V w1 → EnI w r mb s c a1.1 [] (.slice none 0 0) w1) := hid (fun w1 q1 t1 => ⟨(HTV.out.mono (by simp)).trans' t1, q1, t1.keep hb0 (by simp; omega), Nat.lt_of_lt_of_le hmv t1.size, fun _ => hmap.keep (t1.block mb hmv (by simp; omega)), ⟨rfl, Or.inl ⟨rfl, rfl⟩⟩⟩)
  have HJ := hid j1
  have z3 := cell_of (n := 3) hb0 rfl
  generalize hE : entsR s c now N a1.1 [] = EE at *
  have HE := hid hE
  have HNb := hid hNb
  clear h hi hs hc hn T1 T2 hmap q0 hN0 hN hNb eN j1 hE
  have hmm := @run_makeMap Tryz.prog
  unfold PT cv at *
  go_enter Tryz.func47, Tryz.ntmps47
  go_upto_region 2 with fail
  rw [← hV1]
  clear hV1
  go_upto_region 3 with fail
  rw [← hV]
  try rw [← hmb]
  clear hV hmb
  go_wp2_with (go_at_call 95; refine H1.out.mono ?_; rintro e w1 ⟨rfl, q1, t1⟩; have HI1 := hid (HI0.out _ q1 t1); clear q1 t1)
  clear HI0 H1 z3 hb0 hmv
  go_loopw [7, 10, 11] (fun v7 _ _ wr => ∃ (L : List En) (a : Option Addr) (cp : Nat) (y : Rd), v7 = .slice a L.length cp ∧ Hid (EnI w r mb s c y L (.slice a L.length cp) wr ∧ Rin s y ∧ L.length ≤ N ∧ entsR s c now (N - L.length) y L = EE)) (fun v7 _ _ _ => N - slen v7)
  case atStart => exact ⟨[], none, 0, a1.1, rfl, hid ⟨HI1.out, HJ.out, Nat.zero_le _, HE.out⟩⟩
  case round =>
    clear HI1 HJ HE
    obtain ⟨L, a, cp, y, rfl, HI⟩ := hrel
    obtain ⟨u0, u1, u2, u3⟩ := HI.out
    have cEr := cell_of (n := 2) u0.q rfl
    by_cases hlt : L.length < N ∧ y.er = 0
    · obtain ⟨hl, he⟩ := hlt
      rw [he] at cEr
      have zl : (L.length : Int) < (N : Int) := by omega
      have HK := hid (KK.out wr y (keysL L) u0.q (u0.ah he) u1 (by have := HNb.out; simp [keysL]; omega))
      have y1i := u1.key (keysL L)
      have e4 : entsR s c now (N - L.length) y L = entsR s c now (N - (L.length + 1)) (entR s y c now (keysL L)).1 (L ++ [(entR s y c now (keysL L)).2]) := by
        rw [show N - L.length = (N - (L.length + 1)) + 1 by omega, entsR, if_pos he]
      rw [e4] at u3
      unfold entR at u3
      obtain ⟨kk, hkk⟩ : ∃ kk, kk = (keyR s y (keysL L)).2 := ⟨_, rfl⟩
      obtain ⟨k1, hk1⟩ : ∃ k1, k1 = (keyR s y (keysL L)).1 := ⟨_, rfl⟩
      rw [← hkk, ← hk1] at HK u3
      rw [← hk1] at y1i
      have HNu := hid (fun w' (q : Rq w' r s k1) => NN.out w' k1 q y1i)
      have y2i := y1i.num 0 now
      have HER : Hid ((numR s k1 0 now).1.er = 0 → k1.er = 0) := hid numR_er
      obtain ⟨k2, hk2⟩ : ∃ k2, k2 = (numR s k1 0 now).1 := ⟨_, rfl⟩
      obtain ⟨at2, hat2⟩ : ∃ at2, at2 = (numR s k1 0 now).2 := ⟨_, rfl⟩
      rw [← hk2, ← hat2] at HNu u3
      rw [← hk2] at y2i HER
      have HOu := hid (fun w' (q : Rq w' r s k2) => OO.out w' k2 q y2i)
      have y3i := y2i.out c
      have HER2 : Hid ((outR s k2 c).1.er = 0 → k2.er = 0) := hid outR_er
      obtain ⟨k3, hk3⟩ : ∃ k3, k3 = (outR s k2 c).1 := ⟨_, rfl⟩
      obtain ⟨oo, hoo⟩ : ∃ oo, oo = (outR s k2 c).2 := ⟨_, rfl⟩
      rw [← hk3, ← hoo] at HOu u3
      rw [← hk3] at y3i HER2
      have HU3 := hid u3
      have HYI := hid y3i
      have HU0 := hid u0
      have HLL := hid hl
      clear u3 e4 hkk hk1 hk2 hat2 hk3 hoo y1i y2i y3i hl he u2 u1 HI
      obtain ⟨n, hn⟩ : ∃ n, n = L.length := ⟨_, rfl⟩
      have HNn : Hid (n ≤ 65536) := hid (by have := HNb.out; have := HLL.out; omega)
      unfold kv at HK
      unfold ov at HOu
      go_upto_region 6 with (go_at_call 96; refine HK.out.mono ?_; rintro e w5 ⟨rfl, q5, t5, ah5⟩)
      obtain ⟨W5, hW5⟩ : ∃ W5, W5 = w5.alloc (.cells #[.int .u16 kk.1, .string kk.2] 54) := ⟨_, rfl⟩
      obtain ⟨kb, hkb⟩ : ∃ kb, kb = w5.heap.size := ⟨_, rfl⟩
      have tW5 : Touch [] w5 W5 := by rw [hW5]; exact (Touch.refl _ _).alloc _
      have hbk : W5.heap[kb]? = some (.cells #[.int .u16 kk.1, .string kk.2] 54 (0, 0)) := by rw [hW5, hkb]; exact heap_alloc_new w5 _
      have q5' := q5.keep0 tW5
      have HN2 := hid (HNu.out W5 q5')
      have HT5 := hid t5
      have HA5 := hid ah5
      have nkr : kb ≠ r := by have := HU0.out.q.lt; have := t5.size; have := HU0.out.t.size; omega
      rw [← hW5]
      rw [← hkb]
      have HKB := hid hkb
      clear hkb
      clear hW5 HK HNu q5 t5 ah5 cEr zl
      go_upto_region 7 with (go_at_call 46; refine HN2.out.mono ?_; rintro e w6n ⟨rfl, q6, t6⟩)
      obtain ⟨Wd, hWd⟩ : ∃ Wd, Wd = w6n.drew := ⟨_, rfl⟩
      have tWd : Touch [r] W5 Wd := by rw [hWd]; exact t6.drew
      have qd : Rq Wd r s k2 := by rw [hWd]; exact q6
      have T57 : Touch [r] w5 Wd := touch_r tW5 tWd
      have ncr : w.heap.size ≠ r := by omega
      have cb5 := HT5.out.keep HU0.out.cb (by simp; omega)
      have HS5 : Hid (∀ w', Touch [r] Wd w' → w'.heap[kb]? = some (.cells #[.int .u16 kk.1, .string kk.2] 54 (0, 0)) ∧ w'.heap[w.heap.size]? = some (.cells #[.int .i64 c.t, .int .i64 c.n, .int .i64 c.s, .int .i64 c.e, .int .i64 c.f, .int .i64 c.b, .int .i64 c.d] 23 (0, 0))) := hid (fun w' t' => ⟨(tWd.trans' t').keep hbk (by simpa using nkr), (T57.trans' t').keep cb5 (by simpa using ncr)⟩)
      have HOW : Hid (∀ w', Touch [r] Wd w' → w'.ownsRow (mb + 1) 60 7 (.slice a L.length cp) L.length (cellsN L) ∧ mb + 1 ≤ w'.heap.size) := hid (fun w' t' => HU0.out.own hr hw1 HT5.out (T57.trans' t'))
      have HSK : Hid (∀ w7, Touch [r] Wd w7 → ∀ w6, w7.grownBy w6 (Value.slice a L.length cp).ownBlock → w6.heap[kb]? = some (.cells #[.int .u16 kk.1, .string kk.2] 54 (0, 0)) ∧ w6.heap[w.heap.size]? = some (.cells #[.int .i64 c.t, .int .i64 c.n, .int .i64 c.s, .int .i64 c.e, .int .i64 c.f, .int .i64 c.b, .int .i64 c.d] 23 (0, 0))) := hid (fun w7 t' w6 g6 => by
        have tg : Touch (Value.slice a L.length cp).ownBlock.toList w7 w6 := (Touch.refl _ w7).grown g6 (fun q hq => Or.inl (by simp [hq]))
        obtain ⟨z1, z2⟩ := HS5.out w7 t'
        have lt5 : ∀ k, k ∈ (Value.slice a L.length cp).ownBlock.toList → mb + 1 ≤ k ∧ k < kb := fun k hk => by
          have h1 := HU0.out.o.lt k (by simpa using hk)
          have := HT5.out.size
          have := HKB.out
          omega
        exact ⟨tg.keep z1 (fun e => by have := lt5 _ e; omega), tg.keep z2 (fun e => by have := lt5 _ e; omega)⟩)
      have HST : Hid (∀ v5, Rq v5 r s k3 → Touch [r] Wd v5 → ∀ a6 c6 w6, w6.ownsRow (mb + 1) 60 7 (.slice a6 (L.length + 1) c6) (L.length + 1) (cellsN L ++ [.int .u16 kk.1, .string kk.2, .int .i64 oo.1, .int .i64 oo.2.1, .int .i64 oo.2.2.1, .int .i64 oo.2.2.2, .int .i64 at2]) → (v5.alloc (.cells #[.int .u16 kk.1, .string kk.2, .int .i64 oo.1, .int .i64 oo.2.1, .int .i64 oo.2.2.1, .int .i64 oo.2.2.2, .int .i64 at2] 60)).grownBy w6 (Value.slice a L.length cp).ownBlock → EnI w r mb s c k3 (L ++ [(kk, (oo, at2))]) (.slice a6 (L.length + 1) c6) w6) := hid (fun v5 q5 t5 a6 c6 w6 o6 g6 =>
        HU0.out.step hr hw1 HT5.out (T57.trans' (t5.alloc _)) (q5.keep0 ((Touch.refl _ _).alloc _)) (fun he => HA5.out (HER.out (HER2.out he))) o6 g6)
      have HO := hid (HOu.out Wd qd)
      refine wp_region_H (S := fun w' => w'.heap[kb]? = some (.cells #[.int .u16 kk.1, .string kk.2] 54 (0, 0)) ∧ w'.heap[w.heap.size]? = some (.cells #[.int .i64 c.t, .int .i64 c.n, .int .i64 c.s, .int .i64 c.e, .int .i64 c.f, .int .i64 c.b, .int .i64 c.d] 23 (0, 0))) (by kernel_rfl) ?_
      rw [← hWd]
      have k0 := HS5.out Wd (Touch.refl _ _)
      have X0 : ∀ w' : World, (w'.heap[kb]? = some (.cells #[.int .u16 kk.1, .string kk.2] 54 (0, 0)) ∧ w'.heap[w.heap.size]? = some (.cells #[.int .i64 c.t, .int .i64 c.n, .int .i64 c.s, .int .i64 c.e, .int .i64 c.f, .int .i64 c.b, .int .i64 c.d] 23 (0, 0))) → w'.cell? ⟨kb, 0, none⟩ = some (.int .u16 kk.1) := fun w' h => cell_at h.1 rfl
      have X1 : ∀ w' : World, (w'.heap[kb]? = some (.cells #[.int .u16 kk.1, .string kk.2] 54 (0, 0)) ∧ w'.heap[w.heap.size]? = some (.cells #[.int .i64 c.t, .int .i64 c.n, .int .i64 c.s, .int .i64 c.e, .int .i64 c.f, .int .i64 c.b, .int .i64 c.d] 23 (0, 0))) → w'.cell? ⟨kb, 1, none⟩ = some (.string kk.2) := fun w' h => cell_at h.1 rfl
      have Y0 : ∀ w' : World, (w'.heap[kb]? = some (.cells #[.int .u16 kk.1, .string kk.2] 54 (0, 0)) ∧ w'.heap[w.heap.size]? = some (.cells #[.int .i64 c.t, .int .i64 c.n, .int .i64 c.s, .int .i64 c.e, .int .i64 c.f, .int .i64 c.b, .int .i64 c.d] 23 (0, 0))) → w'.cell? ⟨w.heap.size, 0, none⟩ = some (.int .i64 c.t) := fun w' h => cell_at h.2 rfl
      have Y1 : ∀ w' : World, (w'.heap[kb]? = some (.cells #[.int .u16 kk.1, .string kk.2] 54 (0, 0)) ∧ w'.heap[w.heap.size]? = some (.cells #[.int .i64 c.t, .int .i64 c.n, .int .i64 c.s, .int .i64 c.e, .int .i64 c.f, .int .i64 c.b, .int .i64 c.d] 23 (0, 0))) → w'.cell? ⟨w.heap.size, 1, none⟩ = some (.int .i64 c.n) := fun w' h => cell_at h.2 rfl
      have Y2 : ∀ w' : World, (w'.heap[kb]? = some (.cells #[.int .u16 kk.1, .string kk.2] 54 (0, 0)) ∧ w'.heap[w.heap.size]? = some (.cells #[.int .i64 c.t, .int .i64 c.n, .int .i64 c.s, .int .i64 c.e, .int .i64 c.f, .int .i64 c.b, .int .i64 c.d] 23 (0, 0))) → w'.cell? ⟨w.heap.size, 2, none⟩ = some (.int .i64 c.s) := fun w' h => cell_at h.2 rfl
      have Y3 : ∀ w' : World, (w'.heap[kb]? = some (.cells #[.int .u16 kk.1, .string kk.2] 54 (0, 0)) ∧ w'.heap[w.heap.size]? = some (.cells #[.int .i64 c.t, .int .i64 c.n, .int .i64 c.s, .int .i64 c.e, .int .i64 c.f, .int .i64 c.b, .int .i64 c.d] 23 (0, 0))) → w'.cell? ⟨w.heap.size, 3, none⟩ = some (.int .i64 c.e) := fun w' h => cell_at h.2 rfl
      have Y4 : ∀ w' : World, (w'.heap[kb]? = some (.cells #[.int .u16 kk.1, .string kk.2] 54 (0, 0)) ∧ w'.heap[w.heap.size]? = some (.cells #[.int .i64 c.t, .int .i64 c.n, .int .i64 c.s, .int .i64 c.e, .int .i64 c.f, .int .i64 c.b, .int .i64 c.d] 23 (0, 0))) → w'.cell? ⟨w.heap.size, 4, none⟩ = some (.int .i64 c.f) := fun w' h => cell_at h.2 rfl
      have Y5 : ∀ w' : World, (w'.heap[kb]? = some (.cells #[.int .u16 kk.1, .string kk.2] 54 (0, 0)) ∧ w'.heap[w.heap.size]? = some (.cells #[.int .i64 c.t, .int .i64 c.n, .int .i64 c.s, .int .i64 c.e, .int .i64 c.f, .int .i64 c.b, .int .i64 c.d] 23 (0, 0))) → w'.cell? ⟨w.heap.size, 5, none⟩ = some (.int .i64 c.b) := fun w' h => cell_at h.2 rfl
      have Y6 : ∀ w' : World, (w'.heap[kb]? = some (.cells #[.int .u16 kk.1, .string kk.2] 54 (0, 0)) ∧ w'.heap[w.heap.size]? = some (.cells #[.int .i64 c.t, .int .i64 c.n, .int .i64 c.s, .int .i64 c.e, .int .i64 c.f, .int .i64 c.b, .int .i64 c.d] 23 (0, 0))) → w'.cell? ⟨w.heap.size, 6, none⟩ = some (.int .i64 c.d) := fun w' h => cell_at h.2 rfl
      clear hWd tWd T57 cb5 qd q6 t6 hbk q5' tW5 HN2 HOu
      refine wpH_take (i := 0) (v := (Value.slice a L.length cp)) (some 34) rfl rfl (by kernel_rfl) (by kernel_rfl) (by kernel_rfl) (fun _ _ _ h => h) (Or.inl ⟨by rfl, fun w' hS => (by go_simp)⟩) k0 ?_
      try simp only [Go.Act.put, List.setIfInBounds_toArray, List.set_cons_zero, List.set_cons_succ]
      refine wpH_take (i := 1) (v := (.agg #[.int .u16 kk.1, .string kk.2])) (some 35) rfl rfl (by kernel_rfl) (by kernel_rfl) (by kernel_rfl) (fun _ _ _ h => h) (Or.inl ⟨by rfl, fun w' hS => (by have z0 := X0 _ hS; have z1 := X1 _ hS; go_simp)⟩) k0 ?_
      try simp only [Go.Act.put, List.setIfInBounds_toArray, List.set_cons_zero, List.set_cons_succ]
      refine wpH_take (i := 2) (v := (.int .i64 at2)) (some 36) rfl rfl (by kernel_rfl) (by kernel_rfl) (by kernel_rfl) (fun _ _ _ h => h) (Or.inl ⟨by rfl, fun w' hS => (by go_simp)⟩) k0 ?_
      try simp only [Go.Act.put, List.setIfInBounds_toArray, List.set_cons_zero, List.set_cons_succ]
      refine wpH_take (i := 3) (v := (.pointer (some ⟨r, 0, none⟩))) (some 37) rfl rfl (by kernel_rfl) (by kernel_rfl) (by kernel_rfl) (fun _ _ _ h => h) (Or.inl ⟨by rfl, fun w' hS => (by go_simp)⟩) k0 ?_
      try simp only [Go.Act.put, List.setIfInBounds_toArray, List.set_cons_zero, List.set_cons_succ]
      refine wpH_take (i := 4) (v := (.agg #[.int .i64 c.t, .int .i64 c.n, .int .i64 c.s, .int .i64 c.e, .int .i64 c.f, .int .i64 c.b, .int .i64 c.d])) (some 38) rfl rfl (by kernel_rfl) (by kernel_rfl) (by kernel_rfl) (fun _ _ _ h => h) (Or.inl ⟨by rfl, fun w' hS => (by have z0 := Y0 _ hS; have z1 := Y1 _ hS; have z2 := Y2 _ hS; have z3 := Y3 _ hS; have z4 := Y4 _ hS; have z5 := Y5 _ hS; have z6 := Y6 _ hS; go_simp)⟩) k0 ?_
      try simp only [Go.Act.put, List.setIfInBounds_toArray, List.set_cons_zero, List.set_cons_succ]
      refine wpH_call (i := 5) (o := { dst := some 39, op := Op.call { callee := Callee.value (Operand.func 98), args := #[Operand.tmp 37, Operand.tmp 38], argTypes := #[106, 23] }, type := 58, pos := _, after := #[{ on := 3, ground := Ground.data }, { on := 4, ground := Ground.data }], guard := none }) (by kernel_rfl) rfl (fun K' hK => ?_)
      rw [if_pos (by rfl)]
      go_simp
      refine (HO.out).mono ?_
      rintro e v5 ⟨rfl, q5, t5⟩
      have k5 := HS5.out _ t5
      refine hK.out _ _ k5 ?_
      clear hK
      try simp only [Go.Act.put, List.setIfInBounds_toArray, List.set_cons_zero, List.set_cons_succ]
      refine wpH_take (i := 6) (v := (.agg #[.int .u16 kk.1, .string kk.2, .int .i64 oo.1, .int .i64 oo.2.1, .int .i64 oo.2.2.1, .int .i64 oo.2.2.2, .int .i64 at2])) (some 40) rfl rfl (by kernel_rfl) (by kernel_rfl) (by kernel_rfl) (fun _ _ _ h => h) (Or.inl ⟨by rfl, fun w' hS => (by go_simp)⟩) k5 ?_
      try simp only [Go.Act.put, List.setIfInBounds_toArray, List.set_cons_zero, List.set_cons_succ]
      refine wpH_call (i := 7) (o := { dst := some 41, op := Op.buildSlice 24 1 #[(0, Operand.tmp 40)], type := 24, pos := _, after := #[{ on := 6, ground := Ground.data }], guard := none }) (by kernel_rfl) rfl (fun K' hK => ?_)
      rw [if_pos (by rfl)]
      go_simp
      have t7 := t5.alloc (.cells #[.int .u16 kk.1, .string kk.2, .int .i64 oo.1, .int .i64 oo.2.1, .int .i64 oo.2.2.1, .int .i64 oo.2.2.2, .int .i64 at2] 60)
      have k7 := HS5.out _ t7
      refine hK.out _ _ k7 ?_
      clear hK
      try simp only [Go.Act.put, List.setIfInBounds_toArray, List.set_cons_zero, List.set_cons_succ]
      refine wpH_call (i := 8) (o := { dst := some 42, op := Op.call { callee := Callee.builtin Builtin.append, args := #[Operand.tmp 34, Operand.tmp 41], argTypes := #[24, 24] }, type := 24, pos := _, after := #[{ on := 0, ground := Ground.data }, { on := 7, ground := Ground.data }, { on := 5, ground := Ground.chain }], guard := none }) (by kernel_rfl) rfl (fun K' hK => ?_)
      rw [if_pos (by rfl)]
      obtain ⟨o7, s7⟩ := HOW.out _ t7
      refine wp_append_rs _ _ 24 60 rfl (.agg #[.int .u16 0, .string ⟨#[]⟩, .int .i64 0, .int .i64 0, .int .i64 0, .int .i64 0, .int .i64 0]) 7 64 infoKk Tryz.underlying24 rfl (by decide) (mb + 1) (.slice a L.length cp) L.length (cellsN L) rfl o7 (.slice (some ⟨v5.heap.size, 0, none⟩) 1 1) 1 _ rfl (Rs.new v5 #[.int .u16 kk.1, .string kk.2, .int .i64 oo.1, .int .i64 oo.2.1, .int .i64 oo.2.2.1, .int .i64 oo.2.2.2, .int .i64 at2] 60 7 rfl) (cellsN_oneB (kk, (oo, at2))) (by unfold maxLen; have := HNn.out; omega) (by have := HNn.out; omega) s7 ?_
      intro v6 w6 o6 g6 _
      obtain ⟨a6, c6, e6, _⟩ := (Rs.of_own o6).form
      subst e6
      have Q6 := hid (HST.out _ q5 t5 a6 c6 w6 o6 g6)
      have k6 := HSK.out _ t7 w6 g6
      clear o6 g6 o7 s7
      refine hK.out _ _ k6 ?_
      clear hK
      try simp only [Go.Act.put, List.setIfInBounds_toArray, List.set_cons_zero, List.set_cons_succ]
      refine wpH_take (i := 9) (v := (Value.slice a6 (L.length + 1) c6)) (some 7) rfl rfl (by kernel_rfl) (by kernel_rfl) (by kernel_rfl) (fun _ _ _ h => h) (Or.inl ⟨by rfl, fun w' hS => (by go_simp)⟩) k6 ?_
      try simp only [Go.Act.put, List.setIfInBounds_toArray, List.set_cons_zero, List.set_cons_succ]
      refine wpAnyH_done (by kernel_rfl) ?_ _
      go_wp2_with fail
      go_roundw
      case rel => exact ⟨L ++ [(kk, (oo, at2))], a6, c6, k3, by rw [List.length_append]; rfl, hid ⟨by have := Q6.out; rw [List.length_append]; exact this, HYI.out, by rw [List.length_append]; exact HLL.out, by rw [List.length_append]; exact HU3.out⟩⟩
      case measure => simp [slen]; have := HLL.out; omega
    · have HZ : Hid (EE = (y, L)) := hid (by
        rw [← u3]
        by_cases he : y.er = 0
        · rw [show N - L.length = 0 by omega]; rfl
        · exact entsR_bad _ _ _ _ _ _ he)
      have HW : Hid (wr.ownsRow w.heap.size 60 7 (.slice a L.length cp) L.length (cellsN L) ∧ Rq wr r s y ∧ Touch [r] w wr) := hid ⟨own_base u0.o (by omega), u0.q, u0.t⟩
      by_cases hl : L.length < N
      · have zl : (L.length : Int) < (N : Int) := by omega
        have he : ¬ y.er = 0 := fun e => hlt ⟨hl, e⟩
        have hb : (y.er == 0) = false := by simpa using he
        clear u0 u1 u2 u3 HI hlt
        go_wp2
        go_ret
        exact ⟨_, rfl, by rw [HZ.out]; exact HW.out.1, by rw [HZ.out]; exact HW.out.2.1, HW.out.2.2⟩
      · have zl : ¬ (L.length : Int) < (N : Int) := by omega
        clear u0 u1 u2 u3 HI hlt cEr
        go_wp2
        go_ret
        exact ⟨_, rfl, by rw [HZ.out]; exact HW.out.1, by rw [HZ.out]; exact HW.out.2.1, HW.out.2.2⟩
end Go.Proofs.YtpefbmheblfbeaaGreat.Sn
/- The contract of the program's reader for a key that may stand there and stands not ahead already, whatever function tells which may; the text's length is a number of the language's, the reader stands within the text. -/
namespace Go.Proofs.YtpefbmheblfbeaaGreat.Sn
open Go.RowKit Go.Sort Go.Shelf Go.Maps Go.ChangeMaps Me
set_option linter.unusedVariables false
set_option linter.unusedSimpArgs false
def keyG (s : ByteArray) (x : Rd) (A : List K) (may : K → Bool) : Rd × K :=
  match takK s x.at_ with
  | some (k, n) => if hs A k = true then (passS x n false, zk) else (passS x n (may k), if passB x (may k) then k else zk)
  | none => (passS x 0 false, zk)
def KeyC (fv : Value) (r : Nat) (s : ByteArray) (may : K → Bool) (w : World) : Prop := ∀ (w' : World) (mb : Nat) (x : Rd) (A : List K), Touch [r] w w' → Rq w' r s x → Ah w' mb A → Rin s x → A.length ≤ 65536 → Calls Tryz.prog 96 #[PT r, .map (some mb), fv] w' fun e w'' => e = .returned (kv (keyG s x A may).2) ∧ Rq w'' r s (keyG s x A may).1 ∧ Touch [r, mb] w' w'' ∧ ((keyG s x A may).1.er = 0 → Ah w'' mb (A ++ [(keyG s x A may).2]))
set_option maxHeartbeats 4000000 in
theorem key_ga {w : World} {r mb : Nat} {s : ByteArray} {x : Rd} {A : List K} {bx : Nat} {may : K → Bool} (HF : Hid (∀ w', Touch [] w w' → ∀ k, Ok k → Calls Tryz.prog 105 #[kv k, PT bx] w' fun e w'' => e = .returned (.bool (may k)) ∧ Touch [] w' w'')) (h : Rq w r s x) (hm : Ah w mb A) (hi : Rin s x) (hs : s.size ≤ 140737488351232) (hA : A.length ≤ 65536) : Calls Tryz.prog 96 #[PT r, .map (some mb), .func (.func 105) #[] #[PT bx]] w fun e w' => e = .returned (kv (keyG s x A may).2) ∧ Rq w' r s (keyG s x A may).1 ∧ Touch [r, mb] w w' ∧ ((keyG s x A may).1.er = 0 → Ah w' mb (A ++ [(keyG s x A may).2])) := by
  obtain ⟨V, hV⟩ : ∃ V, V = w.alloc (.cells #[.int .u16 0, .string ⟨#[]⟩] 54) := ⟨_, rfl⟩
  have TV : Touch [] w V := by rw [hV]; exact (Touch.refl _ _).alloc _
  have hb : V.heap[w.heap.size]? = some (.cells #[.int .u16 0, .string ⟨#[]⟩] 54 (0, 0)) := by rw [hV]; exact heap_alloc_new w _
  have qV := h.keep0 TV
  obtain ⟨kk, nx, th, ht, ho1, ho2⟩ := takKV_parts (takK s x.at_)
  have HT := hid (fun w => ktake_ w s x.at_ (by omega) (by have := hi.2; omega))
  rw [ht] at HT
  have C0 : ∀ w' : World, w'.heap[r]? = some (.cells #[.string s, .int .i64 x.at_, .int .i64 x.er] 108 (0, 0)) → w'.cell? ⟨r, 0, none⟩ = some (.string s) := fun w' h => cell_at h rfl
  have C1 : ∀ w' : World, w'.heap[r]? = some (.cells #[.string s, .int .i64 x.at_, .int .i64 x.er] 108 (0, 0)) → w'.cell? ⟨r, 1, none⟩ = some (.int .i64 x.at_) := fun w' h => cell_at h rfl
  unfold Rq at qV
  unfold PT
  go_enter Tryz.func96, Tryz.ntmps96
  go_upto_region 1 with fail
  rw [← hV]
  go_cut [7, 8, 9] from 12 to 24 (fun a b c wx => ∃ kb, a = .pointer (some ⟨kb, 0, none⟩) ∧ b = .int .i64 nx ∧ c = .bool th ∧ Hid (wx.heap[kb]? = some (.cells #[.int .u16 kk.1, .string kk.2] 54 (0, 0)) ∧ Touch [] V wx ∧ V.heap.size ≤ kb))
  case first =>
    have s0 : V.drew.heap[r]? = some (.cells #[.string s, .int .i64 x.at_, .int .i64 x.er] 108 (0, 0)) := qV
    have T0 : Hid (Touch [] V V.drew) := hid (Touch.refl _ _).drew
    refine wp_region_H (S := fun w' => w'.heap[r]? = some (.cells #[.string s, .int .i64 x.at_, .int .i64 x.er] 108 (0, 0))) (by kernel_rfl) ?_
    generalize V.drew = Wd at *
    clear hV hb
    refine wpH_take (i := 0) (v := (.pointer (some ⟨r, 0, none⟩))) (some 13) rfl rfl (by kernel_rfl) (by kernel_rfl) (by kernel_rfl) (fun _ _ _ h => h) (Or.inl ⟨by rfl, fun w' hS => (by go_simp)⟩) s0 ?_
    try simp only [Go.Act.put, List.setIfInBounds_toArray, List.set_cons_zero, List.set_cons_succ]
    refine wpH_take (i := 1) (v := (.pointer (some ⟨r, 0, none⟩))) (some 14) rfl rfl (by kernel_rfl) (by kernel_rfl) (by kernel_rfl) (fun _ _ _ h => h) (Or.inl ⟨by rfl, fun w' hS => (by go_simp)⟩) s0 ?_
    try simp only [Go.Act.put, List.setIfInBounds_toArray, List.set_cons_zero, List.set_cons_succ]
    refine wpH_take (i := 2) (v := (.pointer (some ⟨r, 0, none⟩))) (some 15) rfl rfl (by kernel_rfl) (by kernel_rfl) (by kernel_rfl) (fun _ _ _ h => h) (Or.inl ⟨by rfl, fun w' hS => (by go_simp)⟩) s0 ?_
    try simp only [Go.Act.put, List.setIfInBounds_toArray, List.set_cons_zero, List.set_cons_succ]
    refine wpH_take (i := 3) (v := (.string s)) (some 16) rfl rfl (by kernel_rfl) (by kernel_rfl) (by kernel_rfl) (fun _ _ _ h => h) (Or.inl ⟨by rfl, fun w' hS => (by have z0 := C0 _ hS; go_simp)⟩) s0 ?_
    try simp only [Go.Act.put, List.setIfInBounds_toArray, List.set_cons_zero, List.set_cons_succ]
    refine wpH_take (i := 4) (v := (.pointer (some ⟨r, 0, none⟩))) (some 17) rfl rfl (by kernel_rfl) (by kernel_rfl) (by kernel_rfl) (fun _ _ _ h => h) (Or.inl ⟨by rfl, fun w' hS => (by go_simp)⟩) s0 ?_
    try simp only [Go.Act.put, List.setIfInBounds_toArray, List.set_cons_zero, List.set_cons_succ]
    refine wpH_take (i := 5) (v := (.pointer (some ⟨r, 0, none⟩))) (some 18) rfl rfl (by kernel_rfl) (by kernel_rfl) (by kernel_rfl) (fun _ _ _ h => h) (Or.inl ⟨by rfl, fun w' hS => (by go_simp)⟩) s0 ?_
    try simp only [Go.Act.put, List.setIfInBounds_toArray, List.set_cons_zero, List.set_cons_succ]
    refine wpH_take (i := 6) (v := (.pointer (some ⟨r, 1, none⟩))) (some 19) rfl rfl (by kernel_rfl) (by kernel_rfl) (by kernel_rfl) (fun _ _ _ h => h) (Or.inl ⟨by rfl, fun w' hS => (by go_simp)⟩) s0 ?_
    try simp only [Go.Act.put, List.setIfInBounds_toArray, List.set_cons_zero, List.set_cons_succ]
    refine wpH_take (i := 7) (v := (.int .i64 x.at_)) (some 20) rfl rfl (by kernel_rfl) (by kernel_rfl) (by kernel_rfl) (fun _ _ _ h => h) (Or.inl ⟨by rfl, fun w' hS => (by have z0 := C1 _ hS; go_simp)⟩) s0 ?_
    try simp only [Go.Act.put, List.setIfInBounds_toArray, List.set_cons_zero, List.set_cons_succ]
    refine wpH_ready (rs := [8, 13]) (by kernel_rfl) (by simp) ?_
    refine AllH.cons (o := { dst := some 21, op := Op.call { callee := Callee.value (Operand.func 130), args := #[Operand.tmp 16, Operand.tmp 20], argTypes := #[9, 3] }, type := 213, pos := _, after := #[{ on := 3, ground := Ground.data }, { on := 7, ground := Ground.data }], guard := none }) rfl (fun K' hK => ?_) ?_
    · rw [if_pos (by rfl)]
      go_simp
      refine (HT.out _).mono ?_
      rintro e v1 ⟨rfl, t1⟩
      have s1 := t1.keep s0 (by simp)
      have T1 := hid (T0.out.trans' t1)
      refine hK.out _ _ s1 ?_
      clear hK
      try simp only [Go.Act.put, List.setIfInBounds_toArray, List.set_cons_zero, List.set_cons_succ]
      refine wpH_take (i := 9) (v := (.tuple #[(.agg #[.int .u16 kk.1, .string kk.2]), (.int .i64 nx), (.bool th)])) (some 12) rfl rfl (by kernel_rfl) (by kernel_rfl) (by kernel_rfl) (fun _ _ _ h => h) (Or.inl ⟨by rfl, fun w' hS => (by go_simp)⟩) s1 ?_
      try simp only [Go.Act.put, List.setIfInBounds_toArray, List.set_cons_zero, List.set_cons_succ]
      refine wpH_take (i := 10) (v := (.agg #[.int .u16 kk.1, .string kk.2])) (some 22) rfl rfl (by kernel_rfl) (by kernel_rfl) (by kernel_rfl) (fun _ _ _ h => h) (Or.inl ⟨by rfl, fun w' hS => (by go_simp)⟩) s1 ?_
      try simp only [Go.Act.put, List.setIfInBounds_toArray, List.set_cons_zero, List.set_cons_succ]
      refine wpH_take (i := 11) (v := (.int .i64 nx)) (some 23) rfl rfl (by kernel_rfl) (by kernel_rfl) (by kernel_rfl) (fun _ _ _ h => h) (Or.inl ⟨by rfl, fun w' hS => (by go_simp)⟩) s1 ?_
      try simp only [Go.Act.put, List.setIfInBounds_toArray, List.set_cons_zero, List.set_cons_succ]
      refine wpH_take (i := 12) (v := (.bool th)) (some 24) rfl rfl (by kernel_rfl) (by kernel_rfl) (by kernel_rfl) (fun _ _ _ h => h) (Or.inl ⟨by rfl, fun w' hS => (by go_simp)⟩) s1 ?_
      try simp only [Go.Act.put, List.setIfInBounds_toArray, List.set_cons_zero, List.set_cons_succ]
      refine wpH_call (i := 13) (o := { dst := some 7, op := Op.alloc 54, type := 0, pos := _, after := #[], guard := none }) (by kernel_rfl) rfl (fun K' hK => ?_)
      rw [if_pos (by rfl)]
      go_simp
      have s2 := ((Touch.refl [] v1).alloc (.cells #[.int .u16 0, .string ⟨#[]⟩] 54)).keep s1 (by simp)
      have T2 := hid (T1.out.alloc (.cells #[.int .u16 0, .string ⟨#[]⟩] 54))
      have B2 := hid (heap_alloc_new v1 (.cells #[.int .u16 0, .string ⟨#[]⟩] 54))
      refine hK.out _ _ s2 ?_
      clear hK
      try simp only [Go.Act.put, List.setIfInBounds_toArray, List.set_cons_zero, List.set_cons_succ]
      refine wpH_call (i := 14) (o := { dst := none, op := Op.store 54 (Operand.tmp 7) (Operand.tmp 22), type := 0, pos := _, after := #[{ on := 13, ground := Ground.data }, { on := 10, ground := Ground.data }, { on := 8, ground := Ground.chain }, { on := 0, ground := Ground.phase }, { on := 1, ground := Ground.phase }, { on := 2, ground := Ground.phase }, { on := 3, ground := Ground.phase }, { on := 4, ground := Ground.phase }, { on := 5, ground := Ground.phase }, { on := 6, ground := Ground.phase }, { on := 7, ground := Ground.phase }, { on := 8, ground := Ground.phase }, { on := 9, ground := Ground.phase }, { on := 10, ground := Ground.phase }, { on := 11, ground := Ground.textOnly Departure.lateStores }, { on := 12, ground := Ground.textOnly Departure.lateStores }, { on := 13, ground := Ground.phase }], guard := none }) (by kernel_rfl) rfl (fun K' hK => ?_)
      rw [if_pos (by rfl)]
      have m0 := cell_of (n := 0) B2.out rfl
      have m1 := cell_of (n := 1) B2.out rfl
      have m2 := froz_at B2.out 0
      have m3 := froz_at B2.out 1
      go_simp
      clear m0 m1 m2 m3
      have B9 := hid (heap_alloc_new v1 (.cells #[.int .u16 kk.1, .string kk.2] 54))
      have T9 := hid (T1.out.alloc (.cells #[.int .u16 kk.1, .string kk.2] 54))
      have s9 : (v1.alloc (.cells #[.int .u16 kk.1, .string kk.2] 54)).heap[r]? = some (.cells #[.string s, .int .i64 x.at_, .int .i64 x.er] 108 (0, 0)) := T9.out.keep qV (by simp)
      refine hK.out _ _ s9 ?_
      clear hK
      try simp only [Go.Act.put, List.setIfInBounds_toArray, List.set_cons_zero, List.set_cons_succ]
      refine wpH_take (i := 15) (v := (.int .i64 nx)) (some 8) rfl rfl (by kernel_rfl) (by kernel_rfl) (by kernel_rfl) (fun _ _ _ h => h) (Or.inl ⟨by rfl, fun w' hS => (by go_simp)⟩) s9 ?_
      try simp only [Go.Act.put, List.setIfInBounds_toArray, List.set_cons_zero, List.set_cons_succ]
      refine wpH_take (i := 16) (v := (.bool th)) (some 9) rfl rfl (by kernel_rfl) (by kernel_rfl) (by kernel_rfl) (fun _ _ _ h => h) (Or.inl ⟨by rfl, fun w' hS => (by go_simp)⟩) s9 ?_
      try simp only [Go.Act.put, List.setIfInBounds_toArray, List.set_cons_zero, List.set_cons_succ]
      refine wpAnyH_done (by kernel_rfl) ?_ _
      go_wp2_with fail
      go_meet
      exact ⟨v1.heap.size, rfl, rfl, rfl, hid ⟨B9.out, T9.out, T1.out.size⟩⟩
    refine AllH.cons (o := { dst := some 7, op := Op.alloc 54, type := 0, pos := _, after := #[], guard := none }) rfl (fun K' hK => ?_) ?_
    · rw [if_pos (by rfl)]
      go_simp
      have s4 := ((Touch.refl [] Wd).alloc (.cells #[.int .u16 0, .string ⟨#[]⟩] 54)).keep s0 (by simp)
      have T4 := hid (T0.out.alloc (.cells #[.int .u16 0, .string ⟨#[]⟩] 54))
      have B4 := hid (heap_alloc_new Wd (.cells #[.int .u16 0, .string ⟨#[]⟩] 54))
      refine hK.out _ _ s4 ?_
      clear hK
      try simp only [Go.Act.put, List.setIfInBounds_toArray, List.set_cons_zero, List.set_cons_succ]
      refine wpH_call (i := 8) (o := { dst := some 21, op := Op.call { callee := Callee.value (Operand.func 130), args := #[Operand.tmp 16, Operand.tmp 20], argTypes := #[9, 3] }, type := 213, pos := _, after := #[{ on := 3, ground := Ground.data }, { on := 7, ground := Ground.data }], guard := none }) (by kernel_rfl) rfl (fun K' hK => ?_)
      rw [if_pos (by rfl)]
      go_simp
      refine (HT.out _).mono ?_
      rintro e v5 ⟨rfl, t5⟩
      have s5 := t5.keep s4 (by simp)
      have T5 := hid (T4.out.trans' t5)
      have B5 := hid (t5.keep B4.out (by simp))
      refine hK.out _ _ s5 ?_
      clear hK
      try simp only [Go.Act.put, List.setIfInBounds_toArray, List.set_cons_zero, List.set_cons_succ]
      refine wpH_take (i := 9) (v := (.tuple #[(.agg #[.int .u16 kk.1, .string kk.2]), (.int .i64 nx), (.bool th)])) (some 12) rfl rfl (by kernel_rfl) (by kernel_rfl) (by kernel_rfl) (fun _ _ _ h => h) (Or.inl ⟨by rfl, fun w' hS => (by go_simp)⟩) s5 ?_
      try simp only [Go.Act.put, List.setIfInBounds_toArray, List.set_cons_zero, List.set_cons_succ]
      refine wpH_take (i := 10) (v := (.agg #[.int .u16 kk.1, .string kk.2])) (some 22) rfl rfl (by kernel_rfl) (by kernel_rfl) (by kernel_rfl) (fun _ _ _ h => h) (Or.inl ⟨by rfl, fun w' hS => (by go_simp)⟩) s5 ?_
      try simp only [Go.Act.put, List.setIfInBounds_toArray, List.set_cons_zero, List.set_cons_succ]
      refine wpH_take (i := 11) (v := (.int .i64 nx)) (some 23) rfl rfl (by kernel_rfl) (by kernel_rfl) (by kernel_rfl) (fun _ _ _ h => h) (Or.inl ⟨by rfl, fun w' hS => (by go_simp)⟩) s5 ?_
      try simp only [Go.Act.put, List.setIfInBounds_toArray, List.set_cons_zero, List.set_cons_succ]
      refine wpH_take (i := 12) (v := (.bool th)) (some 24) rfl rfl (by kernel_rfl) (by kernel_rfl) (by kernel_rfl) (fun _ _ _ h => h) (Or.inl ⟨by rfl, fun w' hS => (by go_simp)⟩) s5 ?_
      try simp only [Go.Act.put, List.setIfInBounds_toArray, List.set_cons_zero, List.set_cons_succ]
      refine wpH_call (i := 14) (o := { dst := none, op := Op.store 54 (Operand.tmp 7) (Operand.tmp 22), type := 0, pos := _, after := #[{ on := 13, ground := Ground.data }, { on := 10, ground := Ground.data }, { on := 8, ground := Ground.chain }, { on := 0, ground := Ground.phase }, { on := 1, ground := Ground.phase }, { on := 2, ground := Ground.phase }, { on := 3, ground := Ground.phase }, { on := 4, ground := Ground.phase }, { on := 5, ground := Ground.phase }, { on := 6, ground := Ground.phase }, { on := 7, ground := Ground.phase }, { on := 8, ground := Ground.phase }, { on := 9, ground := Ground.phase }, { on := 10, ground := Ground.phase }, { on := 11, ground := Ground.textOnly Departure.lateStores }, { on := 12, ground := Ground.textOnly Departure.lateStores }, { on := 13, ground := Ground.phase }], guard := none }) (by kernel_rfl) rfl (fun K' hK => ?_)
      rw [if_pos (by rfl)]
      have m0 := cell_of (n := 0) B5.out rfl
      have m1 := cell_of (n := 1) B5.out rfl
      have m2 := froz_at B5.out 0
      have m3 := froz_at B5.out 1
      go_simp
      clear m0 m1 m2 m3
      have B9 := hid (bset (i := 1) (bset (i := 0) B5.out (.int .u16 kk.1)) (.string kk.2))
      have T9 := hid ((T5.out.setCell (p := ⟨Wd.heap.size, 0, none⟩) (Or.inr T0.out.size) (.int .u16 kk.1)).setCell (p := ⟨Wd.heap.size, 1, none⟩) (Or.inr T0.out.size) (.string kk.2))
      have s9 : ((v5.setCell ⟨Wd.heap.size, 0, none⟩ (.int .u16 kk.1)).setCell ⟨Wd.heap.size, 1, none⟩ (.string kk.2)).heap[r]? = some (.cells #[.string s, .int .i64 x.at_, .int .i64 x.er] 108 (0, 0)) := T9.out.keep qV (by simp)
      refine hK.out _ _ s9 ?_
      clear hK
      try simp only [Go.Act.put, List.setIfInBounds_toArray, List.set_cons_zero, List.set_cons_succ]
      refine wpH_take (i := 15) (v := (.int .i64 nx)) (some 8) rfl rfl (by kernel_rfl) (by kernel_rfl) (by kernel_rfl) (fun _ _ _ h => h) (Or.inl ⟨by rfl, fun w' hS => (by go_simp)⟩) s9 ?_
      try simp only [Go.Act.put, List.setIfInBounds_toArray, List.set_cons_zero, List.set_cons_succ]
      refine wpH_take (i := 16) (v := (.bool th)) (some 9) rfl rfl (by kernel_rfl) (by kernel_rfl) (by kernel_rfl) (fun _ _ _ h => h) (Or.inl ⟨by rfl, fun w' hS => (by go_simp)⟩) s9 ?_
      try simp only [Go.Act.put, List.setIfInBounds_toArray, List.set_cons_zero, List.set_cons_succ]
      refine wpAnyH_done (by kernel_rfl) ?_ _
      go_wp2_with fail
      go_meet
      exact ⟨Wd.heap.size, rfl, rfl, rfl, hid ⟨B9.out, T9.out, T0.out.size⟩⟩
    exact AllH.nil
  case rest =>
    obtain ⟨kb, rfl, rfl, rfl, HC⟩ := hcut
    obtain ⟨hbk, TX, hkl⟩ := HC.out
    obtain ⟨f, hf, hfa⟩ := hm
    have okk : Ok kk := by
      cases th with
      | true =>
        obtain ⟨a1, a2, a3, _⟩ := takK_b (ho1 rfl)
        exact ⟨by simp [Lit.wf, IntKind.min, IntKind.max, IntKind.signed, IntKind.bits]; omega, by unfold maxLen; omega⟩
      | false =>
        rw [(ho2 rfl).2.1]
        exact ⟨by decide, by decide⟩
    have tw : Touch [] w wc := TV.trans' TX
    have hf1 : Me.MapAt wc mb A.length f := hf.kept (tw.block mb hf.lt (by simp))
    have hlk := hf1.lookOk (t := 174) Tryz.underlying174 (zero3 wc) okk
    rw [hfa kk okk] at hlk
    unfold kv at hlk
    have k0 := cell_of (n := 0) hbk rfl
    have k1 := cell_of (n := 1) hbk rfl
    have ner : w.heap.size ≠ r := by have := h.lt; omega
    have HN : Hid (∀ w2, Rq w2 r s (keyG s x A may).1 → Touch [r] wc w2 → ∀ W9, W9 = (w2.setCell ⟨w.heap.size, 0, none⟩ (.int .u16 0)).setCell ⟨w.heap.size, 1, none⟩ (.string ⟨#[]⟩) → W9.heap[w.heap.size]? = some (.cells #[.int .u16 0, .string ⟨#[]⟩] 54 (0, 0)) ∧ Rq W9 r s (keyG s x A may).1 ∧ Touch [r, mb] w W9) := hid (fun w2 q2 t2 W9 h9 => by
      have b7 := boxT t2 (TX.keep hb (by simp)) ner
      have t9 : Touch [w.heap.size] w2 W9 := by rw [h9]; exact ((Touch.refl [w.heap.size] w2).setCell (p := ⟨w.heap.size, 0, none⟩) (Or.inl (by simp)) _).setCell (p := ⟨w.heap.size, 1, none⟩) (Or.inl (by simp)) _
      refine ⟨by rw [h9]; exact bset (i := 1) (bset (i := 0) b7 _) _, t9.keep q2 (by simpa using ner.symm), ?_⟩
      refine (tw.mono (G := [r, mb]) (by simp)).trans ((t2.mono (G := [r, w.heap.size]) (by simp)).trans' (t9.mono (by simp))) (fun k hk => ?_)
      simp at hk
      rcases hk with rfl | rfl
      · exact Or.inl (by simp)
      · exact Or.inr (Nat.le_refl _))
    have HAny := hid (fun w' (t : Touch [] wc w') => HF.out w' (tw.trans' t) kk okk)
    unfold kv at HAny
    cases th with
    | false =>
      obtain ⟨o1, o2, o3⟩ := ho2 rfl
      have eK : keyG s x A may = (passS x nx false, zk) := by unfold keyG; rw [o1, o3]
      have HP : Hid (∀ w', Touch [] V w' → Calls Tryz.prog 92 #[.pointer (some ⟨r, 0, none⟩), .int .i64 nx, .bool false] w' fun e w'' => e = .returned (.bool false) ∧ Rq w'' r s (passS x nx false) ∧ Touch [r] w' w'') := hid (fun w' t => (pass_ (h.keep0 (TV.trans' t)) nx false).mono fun e w'' ⟨h1, h2⟩ => ⟨by rw [h1]; unfold passB; split <;> rfl, h2⟩)
      clear o1 o2 o3
      have HEN : Hid (¬ (keyG s x A may).1.er = 0) := hid (by rw [eK]; unfold passS; split <;> simp_all)
      have HKE := hid eK
      clear eK ho1 ho2 hs hi hA
      go_wp2_with (go_at_call 92; refine (HP.out _ TX).mono ?_; rintro e w2 ⟨rfl, q2, t2⟩; have b7 := boxT t2 (TX.keep hb (by simp)) ner; have e0 := cell_of (n := 0) b7 rfl; have e1 := cell_of (n := 1) b7 rfl; have e2 := froz_at b7 0; have e3 := froz_at b7 1)
      obtain ⟨W9, hW9⟩ : ∃ W9, W9 = (w2.setCell ⟨w.heap.size, 0, none⟩ (.int .u16 0)).setCell ⟨w.heap.size, 1, none⟩ (.string ⟨#[]⟩) := ⟨_, rfl⟩
      obtain ⟨b8, q8, t8⟩ := HN.out w2 (by rw [HKE.out]; exact q2) t2 W9 hW9
      rw [← hW9]
      clear hW9 e0 e1 e2 e3
      have y0 : W9.cell? ⟨w.heap.size, 0, none⟩ = some (.int .u16 0) := cell_of b8 rfl
      have y1 : W9.cell? ⟨w.heap.size, 1, none⟩ = some (.string ⟨#[]⟩) := cell_of b8 rfl
      exact bodyPost_ret (v := .agg #[.int .u16 0, .string ⟨#[]⟩]) (by simp [results, Tryz.results96, go_sem, y0, y1]) rfl ⟨by rw [HKE.out]; rfl, q8, t8, fun he => absurd he HEN.out⟩
    | true =>
      have o1 := ho1 rfl
      cases htw : Me.hs A kk with
      | true =>
        have eK : keyG s x A may = (passS x nx false, zk) := by unfold keyG; rw [o1]; simp only; rw [if_pos htw]
        have HP : Hid (∀ w', Touch [] V w' → Calls Tryz.prog 92 #[.pointer (some ⟨r, 0, none⟩), .int .i64 nx, .bool false] w' fun e w'' => e = .returned (.bool false) ∧ Rq w'' r s (passS x nx false) ∧ Touch [r] w' w'') := hid (fun w' t => (pass_ (h.keep0 (TV.trans' t)) nx false).mono fun e w'' ⟨h1, h2⟩ => ⟨by rw [h1]; unfold passB; split <;> rfl, h2⟩)
        rw [htw] at hlk
        clear o1
        have HEN : Hid (¬ (keyG s x A may).1.er = 0) := hid (by rw [eK]; unfold passS; split <;> simp_all)
        have HKE := hid eK
        clear eK ho1 ho2 hs hi hA
        go_wp2_with (go_at_call 92; refine (HP.out _ TX).mono ?_; rintro e w2 ⟨rfl, q2, t2⟩; have b7 := boxT t2 (TX.keep hb (by simp)) ner; have e0 := cell_of (n := 0) b7 rfl; have e1 := cell_of (n := 1) b7 rfl; have e2 := froz_at b7 0; have e3 := froz_at b7 1)
        obtain ⟨W9, hW9⟩ : ∃ W9, W9 = (w2.setCell ⟨w.heap.size, 0, none⟩ (.int .u16 0)).setCell ⟨w.heap.size, 1, none⟩ (.string ⟨#[]⟩) := ⟨_, rfl⟩
        obtain ⟨b8, q8, t8⟩ := HN.out w2 (by rw [HKE.out]; exact q2) t2 W9 hW9
        rw [← hW9]
        clear hW9 e0 e1 e2 e3
        have y0 : W9.cell? ⟨w.heap.size, 0, none⟩ = some (.int .u16 0) := cell_of b8 rfl
        have y1 : W9.cell? ⟨w.heap.size, 1, none⟩ = some (.string ⟨#[]⟩) := cell_of b8 rfl
        exact bodyPost_ret (v := .agg #[.int .u16 0, .string ⟨#[]⟩]) (by simp [results, Tryz.results96, go_sem, y0, y1]) rfl ⟨by rw [HKE.out]; rfl, q8, t8, fun he => absurd he HEN.out⟩
      | false =>
        rw [htw] at hlk
        cases hmay : may kk with
        | false =>
          have eK : keyG s x A may = (passS x nx false, zk) := by unfold keyG; rw [o1]; simp only; rw [if_neg (by rw [htw]; simp), hmay]; refine Prod.ext rfl ?_; show (if passB x false then kk else zk) = zk; unfold passB; split <;> rfl
          have HP : Hid (∀ w', Touch [] V w' → Calls Tryz.prog 92 #[.pointer (some ⟨r, 0, none⟩), .int .i64 nx, .bool false] w' fun e w'' => e = .returned (.bool false) ∧ Rq w'' r s (passS x nx false) ∧ Touch [r] w' w'') := hid (fun w' t => (pass_ (h.keep0 (TV.trans' t)) nx false).mono fun e w'' ⟨h1, h2⟩ => ⟨by rw [h1]; unfold passB; split <;> rfl, h2⟩)
          rw [hmay] at HAny
          clear o1
          have HEN : Hid (¬ (keyG s x A may).1.er = 0) := hid (by rw [eK]; unfold passS; split <;> simp_all)
          have HKE := hid eK
          clear eK ho1 ho2 hs hi hA
          go_wp2_with (first | (go_at_call 105; refine (HAny.out _ (Touch.refl _ _)).mono ?_; rintro e w1 ⟨rfl, s1⟩; have U1 : Touch [] V w1 := TX.trans' s1) | (go_at_call 92; refine (HP.out _ U1).mono ?_; rintro e w2 ⟨rfl, q2, t2⟩; have b7 := boxT t2 (U1.keep hb (by simp)) ner; have e0 := cell_of (n := 0) b7 rfl; have e1 := cell_of (n := 1) b7 rfl; have e2 := froz_at b7 0; have e3 := froz_at b7 1))
          obtain ⟨W9, hW9⟩ : ∃ W9, W9 = (w2.setCell ⟨w.heap.size, 0, none⟩ (.int .u16 0)).setCell ⟨w.heap.size, 1, none⟩ (.string ⟨#[]⟩) := ⟨_, rfl⟩
          obtain ⟨b8, q8, t8⟩ := HN.out w2 (by rw [HKE.out]; exact q2) (((Touch.refl [r] wc).trans' (s1.mono (by simp))).trans' t2) W9 hW9
          rw [← hW9]
          clear hW9 e0 e1 e2 e3
          have y0 : W9.cell? ⟨w.heap.size, 0, none⟩ = some (.int .u16 0) := cell_of b8 rfl
          have y1 : W9.cell? ⟨w.heap.size, 1, none⟩ = some (.string ⟨#[]⟩) := cell_of b8 rfl
          exact bodyPost_ret (v := .agg #[.int .u16 0, .string ⟨#[]⟩]) (by simp [results, Tryz.results96, go_sem, y0, y1]) rfl ⟨by rw [HKE.out]; rfl, q8, t8, fun he => absurd he HEN.out⟩
        | true =>
          rw [hmay] at HAny
          by_cases hx : x.er = 0
          · have eK : keyG s x A may = (⟨nx, 0⟩, kk) := by
              unfold keyG; rw [o1]; simp only; rw [if_neg (by rw [htw]; simp), hmay]
              have e1 : passB x true = true := by unfold passB; rw [if_neg (by simpa using hx)]
              have e2 : passS x nx true = ⟨nx, 0⟩ := by unfold passS; rw [if_neg (by simpa using hx), if_pos rfl]
              rw [e1, e2]; rfl
            have HP : Hid (∀ w', Touch [] V w' → Calls Tryz.prog 92 #[.pointer (some ⟨r, 0, none⟩), .int .i64 nx, .bool true] w' fun e w'' => e = .returned (.bool true) ∧ Rq w'' r s ⟨nx, 0⟩ ∧ Touch [r] w' w'') := hid (fun w' t => (pass_ (h.keep0 (TV.trans' t)) nx true).mono fun e w'' ⟨h1, h2⟩ => ⟨by rw [h1]; unfold passB; rw [if_neg (by simpa using hx)], by
              have e2 : passS x nx true = ⟨nx, 0⟩ := by unfold passS; rw [if_neg (by simpa using hx), if_pos rfl]
              rw [e2] at h2; exact h2⟩)
            have nmr : mb ≠ r := MapAt.ne_block hf h
            have nmb : mb ≠ w.heap.size := by have := hf.lt; omega
            have nkb : kb ≠ mb := by have := hf.lt; have := TV.size; omega
            have nkr : kb ≠ r := by have := h.lt; have := TV.size; omega
            have HMP : Hid (∀ w1 w2, Touch [] wc w1 → Touch [r] w1 w2 → ∃ ob, (Builtin.len_ #[174] 3 #[.map (some mb)]).run Tryz.prog w2 = .ok (.int .i64 (A.length : Int)) w2 ∧ (Instr.mapUpdate 174 (.map (some mb)) (kv kk) (.int .i64 (A.length : Int))).run Tryz.prog w2 = .ok () (setBlock w2 mb ob) ∧ Me.MapAt (setBlock w2 mb ob) mb (A.length + 1) (Me.upd f kk (.int .i64 (A.length : Int)))) := hid (fun w1 w2 s1 t2 => by
              have hf2 : Me.MapAt w2 mb A.length f := (hf1.kept (s1.block mb hf1.lt (by simp))).kept (t2.block mb (Nat.lt_of_lt_of_le hf1.lt s1.size) (by simpa using nmr))
              obtain ⟨ob, h1, h2⟩ := hf2.set (t := 174) Tryz.underlying174 (by unfold maxLen; omega) okk (.int .i64 (A.length : Int))
              rw [hfa kk okk, htw] at h2
              exact ⟨ob, hf2.len Tryz.underlying174 3, h1, h2⟩)
            have HAH : Hid (∀ W9, Me.MapAt W9 mb (A.length + 1) (Me.upd f kk (.int .i64 (A.length : Int))) → Ah W9 mb (A ++ [kk])) := hid (fun W9 hm9 => ⟨_, by rw [List.length_append]; exact hm9, fun j hj => by
              unfold Me.upd
              by_cases hjk : j = kk
              · rw [if_pos hjk, hjk]
                exact (hs_yes (by simp)).symm
              · rw [if_neg hjk, hfa j hj]
                unfold Me.hs
                rw [List.any_append]
                simp [Ne.symm hjk]⟩)
            unfold kv at HMP
            have HKE := hid eK
            have HTW := hid tw
            clear eK ho1 ho2 hs hi hA o1 HN
            go_wp2_with (first
              | (go_at_call 105; refine (HAny.out _ (Touch.refl _ _)).mono ?_; rintro e w1 ⟨rfl, s1⟩; have U1 : Touch [] V w1 := TX.trans' s1)
              | (go_at_call 92; refine (HP.out _ U1).mono ?_; rintro e w2 ⟨rfl, q2, t2⟩; obtain ⟨ob, hln, hup, hm2⟩ := HMP.out w1 w2 s1 t2; have b7 := boxT t2 (U1.keep hb (by simp)) ner; have c7 := boxT t2 (s1.keep hbk (by simp)) nkr; have b8 : (setBlock w2 mb ob).heap[w.heap.size]? = _ := (setBlock_other w2 mb ob nmb.symm).trans b7; have c8 : (setBlock w2 mb ob).heap[kb]? = _ := (setBlock_other w2 mb ob nkb).trans c7; have d0 := cell_of (n := 0) c7 rfl; have d1 := cell_of (n := 1) c7 rfl; have e0 := cell_of (n := 0) b8 rfl; have e1 := cell_of (n := 1) b8 rfl; have e2 := froz_at b8 0; have e3 := froz_at b8 1; have d2 := cell_of (n := 0) c8 rfl; have d3 := cell_of (n := 1) c8 rfl))
            obtain ⟨W9, hW9⟩ : ∃ W9, W9 = ((setBlock w2 mb ob).setCell ⟨w.heap.size, 0, none⟩ (.int .u16 kk.1)).setCell ⟨w.heap.size, 1, none⟩ (.string kk.2) := ⟨_, rfl⟩
            rw [← hW9]
            have t9 : Touch [w.heap.size] (setBlock w2 mb ob) W9 := by rw [hW9]; exact ((Touch.refl [w.heap.size] (setBlock w2 mb ob)).setCell (p := ⟨w.heap.size, 0, none⟩) (Or.inl (by simp)) _).setCell (p := ⟨w.heap.size, 1, none⟩) (Or.inl (by simp)) _
            have b9 : W9.heap[w.heap.size]? = some (.cells #[.int .u16 kk.1, .string kk.2] 54 (0, 0)) := by rw [hW9]; exact bset (i := 1) (bset (i := 0) b8 _) _
            have q9 : Rq W9 r s ⟨nx, 0⟩ := t9.keep ((setBlock_other w2 mb ob nmr.symm).trans q2) (by simpa using ner.symm)
            have m9 := HAH.out W9 (hm2.kept (t9.block mb hm2.lt (by simpa using nmb)))
            have t8 : Touch [r, mb] w W9 := (HTW.out.mono (G := [r, mb]) (by simp)).trans ((s1.mono (G := [r, mb, w.heap.size]) (by simp)).trans' ((touch_setBlock (t2.mono (G := [r, mb, w.heap.size]) (by simp)) (Or.inl (by simp)) ob).trans' (t9.mono (by simp)))) (fun k hk => by
              simp at hk
              rcases hk with rfl | rfl | rfl
              · exact Or.inl (by simp)
              · exact Or.inl (by simp)
              · exact Or.inr (Nat.le_refl _))
            clear hW9 e0 e1 e2 e3 d0 d1 d2 d3 hln hup hm2 b8 c8 b7 c7
            have y0 : W9.cell? ⟨w.heap.size, 0, none⟩ = some (.int .u16 kk.1) := cell_of b9 rfl
            have y1 : W9.cell? ⟨w.heap.size, 1, none⟩ = some (.string kk.2) := cell_of b9 rfl
            exact bodyPost_ret (v := .agg #[.int .u16 kk.1, .string kk.2]) (by simp [results, Tryz.results96, go_sem, y0, y1]) rfl ⟨by rw [HKE.out]; rfl, by rw [HKE.out]; exact q9, t8, fun _ => by rw [HKE.out]; exact m9⟩
          · have eK : keyG s x A may = (passS x nx true, zk) := by
              unfold keyG; rw [o1]; simp only; rw [if_neg (by rw [htw]; simp), hmay]
              have : passB x true = false := by unfold passB; rw [if_pos hx]
              rw [this]; rfl
            have HP : Hid (∀ w', Touch [] V w' → Calls Tryz.prog 92 #[.pointer (some ⟨r, 0, none⟩), .int .i64 nx, .bool true] w' fun e w'' => e = .returned (.bool false) ∧ Rq w'' r s (passS x nx true) ∧ Touch [r] w' w'') := hid (fun w' t => (pass_ (h.keep0 (TV.trans' t)) nx true).mono fun e w'' ⟨h1, h2⟩ => ⟨by rw [h1]; unfold passB; rw [if_pos hx], h2⟩)
            clear o1
            have HEN : Hid (¬ (keyG s x A may).1.er = 0) := hid (by rw [eK]; unfold passS; rw [if_pos hx]; exact hx)
            have HKE := hid eK
            clear eK ho1 ho2 hs hi hA
            go_wp2_with (first | (go_at_call 105; refine (HAny.out _ (Touch.refl _ _)).mono ?_; rintro e w1 ⟨rfl, s1⟩; have U1 : Touch [] V w1 := TX.trans' s1) | (go_at_call 92; refine (HP.out _ U1).mono ?_; rintro e w2 ⟨rfl, q2, t2⟩; have b7 := boxT t2 (U1.keep hb (by simp)) ner; have e0 := cell_of (n := 0) b7 rfl; have e1 := cell_of (n := 1) b7 rfl; have e2 := froz_at b7 0; have e3 := froz_at b7 1))
            obtain ⟨W9, hW9⟩ : ∃ W9, W9 = (w2.setCell ⟨w.heap.size, 0, none⟩ (.int .u16 0)).setCell ⟨w.heap.size, 1, none⟩ (.string ⟨#[]⟩) := ⟨_, rfl⟩
            obtain ⟨b8, q8, t8⟩ := HN.out w2 (by rw [HKE.out]; exact q2) (((Touch.refl [r] wc).trans' (s1.mono (by simp))).trans' t2) W9 hW9
            rw [← hW9]
            clear hW9 e0 e1 e2 e3
            have y0 : W9.cell? ⟨w.heap.size, 0, none⟩ = some (.int .u16 0) := cell_of b8 rfl
            have y1 : W9.cell? ⟨w.heap.size, 1, none⟩ = some (.string ⟨#[]⟩) := cell_of b8 rfl
            exact bodyPost_ret (v := .agg #[.int .u16 0, .string ⟨#[]⟩]) (by simp [results, Tryz.results96, go_sem, y0, y1]) rfl ⟨by rw [HKE.out]; rfl, q8, t8, fun he => absurd he HEN.out⟩
theorem keyC_a {r bx : Nat} {s : ByteArray} {may : K → Bool} {w : World} (hs : s.size ≤ 140737488351232) (HF : ∀ w', Touch [r] w w' → ∀ k, Ok k → Calls Tryz.prog 105 #[kv k, PT bx] w' fun e w'' => e = .returned (.bool (may k)) ∧ Touch [] w' w'') : KeyC (.func (.func 105) #[] #[PT bx]) r s may w := fun w' mb x A t h hm hi hA => key_ga (hid (fun w2 t2 => HF w2 (t.trans' (t2.mono (by simp))))) h hm hi hs hA
end Go.Proofs.YtpefbmheblfbeaaGreat.Sn
/- The contract of the program's reader for a key, with the function that tells which keys there are by a patch; the text's length is a number of the language's, the reader stands within the text. -/
namespace Go.Proofs.YtpefbmheblfbeaaGreat.Sn
open Go.RowKit Go.Sort Go.Shelf Go.Maps Go.ChangeMaps Me
set_option linter.unusedVariables false
set_option linter.unusedSimpArgs false
def newsV (m gb ob : Nat) : Value := .agg #[PT m, .map (some gb), .map (some ob)]
set_option maxHeartbeats 4000000 in
theorem key_gb {w : World} {r mb : Nat} {s : ByteArray} {x : Rd} {A : List K} {m gb ob : Nat} {may : K → Bool} (HF : Hid (∀ w', Touch [] w w' → ∀ k, Ok k → Calls Tryz.prog 108 #[newsV m gb ob, kv k] w' fun e w'' => e = .returned (.bool (may k)) ∧ Touch [] w' w'')) (h : Rq w r s x) (hm : Ah w mb A) (hi : Rin s x) (hs : s.size ≤ 140737488351232) (hA : A.length ≤ 65536) : Calls Tryz.prog 96 #[PT r, .map (some mb), .func (.func 108) #[newsV m gb ob] #[]] w fun e w' => e = .returned (kv (keyG s x A may).2) ∧ Rq w' r s (keyG s x A may).1 ∧ Touch [r, mb] w w' ∧ ((keyG s x A may).1.er = 0 → Ah w' mb (A ++ [(keyG s x A may).2])) := by
  obtain ⟨V, hV⟩ : ∃ V, V = w.alloc (.cells #[.int .u16 0, .string ⟨#[]⟩] 54) := ⟨_, rfl⟩
  have TV : Touch [] w V := by rw [hV]; exact (Touch.refl _ _).alloc _
  have hb : V.heap[w.heap.size]? = some (.cells #[.int .u16 0, .string ⟨#[]⟩] 54 (0, 0)) := by rw [hV]; exact heap_alloc_new w _
  have qV := h.keep0 TV
  obtain ⟨kk, nx, th, ht, ho1, ho2⟩ := takKV_parts (takK s x.at_)
  have HT := hid (fun w => ktake_ w s x.at_ (by omega) (by have := hi.2; omega))
  rw [ht] at HT
  have C0 : ∀ w' : World, w'.heap[r]? = some (.cells #[.string s, .int .i64 x.at_, .int .i64 x.er] 108 (0, 0)) → w'.cell? ⟨r, 0, none⟩ = some (.string s) := fun w' h => cell_at h rfl
  have C1 : ∀ w' : World, w'.heap[r]? = some (.cells #[.string s, .int .i64 x.at_, .int .i64 x.er] 108 (0, 0)) → w'.cell? ⟨r, 1, none⟩ = some (.int .i64 x.at_) := fun w' h => cell_at h rfl
  unfold Rq at qV
  unfold PT newsV PT
  go_enter Tryz.func96, Tryz.ntmps96
  go_upto_region 1 with fail
  rw [← hV]
  go_cut [7, 8, 9] from 12 to 24 (fun a b c wx => ∃ kb, a = .pointer (some ⟨kb, 0, none⟩) ∧ b = .int .i64 nx ∧ c = .bool th ∧ Hid (wx.heap[kb]? = some (.cells #[.int .u16 kk.1, .string kk.2] 54 (0, 0)) ∧ Touch [] V wx ∧ V.heap.size ≤ kb))
  case first =>
    have s0 : V.drew.heap[r]? = some (.cells #[.string s, .int .i64 x.at_, .int .i64 x.er] 108 (0, 0)) := qV
    have T0 : Hid (Touch [] V V.drew) := hid (Touch.refl _ _).drew
    refine wp_region_H (S := fun w' => w'.heap[r]? = some (.cells #[.string s, .int .i64 x.at_, .int .i64 x.er] 108 (0, 0))) (by kernel_rfl) ?_
    generalize V.drew = Wd at *
    clear hV hb
    refine wpH_take (i := 0) (v := (.pointer (some ⟨r, 0, none⟩))) (some 13) rfl rfl (by kernel_rfl) (by kernel_rfl) (by kernel_rfl) (fun _ _ _ h => h) (Or.inl ⟨by rfl, fun w' hS => (by go_simp)⟩) s0 ?_
    try simp only [Go.Act.put, List.setIfInBounds_toArray, List.set_cons_zero, List.set_cons_succ]
    refine wpH_take (i := 1) (v := (.pointer (some ⟨r, 0, none⟩))) (some 14) rfl rfl (by kernel_rfl) (by kernel_rfl) (by kernel_rfl) (fun _ _ _ h => h) (Or.inl ⟨by rfl, fun w' hS => (by go_simp)⟩) s0 ?_
    try simp only [Go.Act.put, List.setIfInBounds_toArray, List.set_cons_zero, List.set_cons_succ]
    refine wpH_take (i := 2) (v := (.pointer (some ⟨r, 0, none⟩))) (some 15) rfl rfl (by kernel_rfl) (by kernel_rfl) (by kernel_rfl) (fun _ _ _ h => h) (Or.inl ⟨by rfl, fun w' hS => (by go_simp)⟩) s0 ?_
    try simp only [Go.Act.put, List.setIfInBounds_toArray, List.set_cons_zero, List.set_cons_succ]
    refine wpH_take (i := 3) (v := (.string s)) (some 16) rfl rfl (by kernel_rfl) (by kernel_rfl) (by kernel_rfl) (fun _ _ _ h => h) (Or.inl ⟨by rfl, fun w' hS => (by have z0 := C0 _ hS; go_simp)⟩) s0 ?_
    try simp only [Go.Act.put, List.setIfInBounds_toArray, List.set_cons_zero, List.set_cons_succ]
    refine wpH_take (i := 4) (v := (.pointer (some ⟨r, 0, none⟩))) (some 17) rfl rfl (by kernel_rfl) (by kernel_rfl) (by kernel_rfl) (fun _ _ _ h => h) (Or.inl ⟨by rfl, fun w' hS => (by go_simp)⟩) s0 ?_
    try simp only [Go.Act.put, List.setIfInBounds_toArray, List.set_cons_zero, List.set_cons_succ]
    refine wpH_take (i := 5) (v := (.pointer (some ⟨r, 0, none⟩))) (some 18) rfl rfl (by kernel_rfl) (by kernel_rfl) (by kernel_rfl) (fun _ _ _ h => h) (Or.inl ⟨by rfl, fun w' hS => (by go_simp)⟩) s0 ?_
    try simp only [Go.Act.put, List.setIfInBounds_toArray, List.set_cons_zero, List.set_cons_succ]
    refine wpH_take (i := 6) (v := (.pointer (some ⟨r, 1, none⟩))) (some 19) rfl rfl (by kernel_rfl) (by kernel_rfl) (by kernel_rfl) (fun _ _ _ h => h) (Or.inl ⟨by rfl, fun w' hS => (by go_simp)⟩) s0 ?_
    try simp only [Go.Act.put, List.setIfInBounds_toArray, List.set_cons_zero, List.set_cons_succ]
    refine wpH_take (i := 7) (v := (.int .i64 x.at_)) (some 20) rfl rfl (by kernel_rfl) (by kernel_rfl) (by kernel_rfl) (fun _ _ _ h => h) (Or.inl ⟨by rfl, fun w' hS => (by have z0 := C1 _ hS; go_simp)⟩) s0 ?_
    try simp only [Go.Act.put, List.setIfInBounds_toArray, List.set_cons_zero, List.set_cons_succ]
    refine wpH_ready (rs := [8, 13]) (by kernel_rfl) (by simp) ?_
    refine AllH.cons (o := { dst := some 21, op := Op.call { callee := Callee.value (Operand.func 130), args := #[Operand.tmp 16, Operand.tmp 20], argTypes := #[9, 3] }, type := 213, pos := _, after := #[{ on := 3, ground := Ground.data }, { on := 7, ground := Ground.data }], guard := none }) rfl (fun K' hK => ?_) ?_
    · rw [if_pos (by rfl)]
      go_simp
      refine (HT.out _).mono ?_
      rintro e v1 ⟨rfl, t1⟩
      have s1 := t1.keep s0 (by simp)
      have T1 := hid (T0.out.trans' t1)
      refine hK.out _ _ s1 ?_
      clear hK
      try simp only [Go.Act.put, List.setIfInBounds_toArray, List.set_cons_zero, List.set_cons_succ]
      refine wpH_take (i := 9) (v := (.tuple #[(.agg #[.int .u16 kk.1, .string kk.2]), (.int .i64 nx), (.bool th)])) (some 12) rfl rfl (by kernel_rfl) (by kernel_rfl) (by kernel_rfl) (fun _ _ _ h => h) (Or.inl ⟨by rfl, fun w' hS => (by go_simp)⟩) s1 ?_
      try simp only [Go.Act.put, List.setIfInBounds_toArray, List.set_cons_zero, List.set_cons_succ]
      refine wpH_take (i := 10) (v := (.agg #[.int .u16 kk.1, .string kk.2])) (some 22) rfl rfl (by kernel_rfl) (by kernel_rfl) (by kernel_rfl) (fun _ _ _ h => h) (Or.inl ⟨by rfl, fun w' hS => (by go_simp)⟩) s1 ?_
      try simp only [Go.Act.put, List.setIfInBounds_toArray, List.set_cons_zero, List.set_cons_succ]
      refine wpH_take (i := 11) (v := (.int .i64 nx)) (some 23) rfl rfl (by kernel_rfl) (by kernel_rfl) (by kernel_rfl) (fun _ _ _ h => h) (Or.inl ⟨by rfl, fun w' hS => (by go_simp)⟩) s1 ?_
      try simp only [Go.Act.put, List.setIfInBounds_toArray, List.set_cons_zero, List.set_cons_succ]
      refine wpH_take (i := 12) (v := (.bool th)) (some 24) rfl rfl (by kernel_rfl) (by kernel_rfl) (by kernel_rfl) (fun _ _ _ h => h) (Or.inl ⟨by rfl, fun w' hS => (by go_simp)⟩) s1 ?_
      try simp only [Go.Act.put, List.setIfInBounds_toArray, List.set_cons_zero, List.set_cons_succ]
      refine wpH_call (i := 13) (o := { dst := some 7, op := Op.alloc 54, type := 0, pos := _, after := #[], guard := none }) (by kernel_rfl) rfl (fun K' hK => ?_)
      rw [if_pos (by rfl)]
      go_simp
      have s2 := ((Touch.refl [] v1).alloc (.cells #[.int .u16 0, .string ⟨#[]⟩] 54)).keep s1 (by simp)
      have T2 := hid (T1.out.alloc (.cells #[.int .u16 0, .string ⟨#[]⟩] 54))
      have B2 := hid (heap_alloc_new v1 (.cells #[.int .u16 0, .string ⟨#[]⟩] 54))
      refine hK.out _ _ s2 ?_
      clear hK
      try simp only [Go.Act.put, List.setIfInBounds_toArray, List.set_cons_zero, List.set_cons_succ]
      refine wpH_call (i := 14) (o := { dst := none, op := Op.store 54 (Operand.tmp 7) (Operand.tmp 22), type := 0, pos := _, after := #[{ on := 13, ground := Ground.data }, { on := 10, ground := Ground.data }, { on := 8, ground := Ground.chain }, { on := 0, ground := Ground.phase }, { on := 1, ground := Ground.phase }, { on := 2, ground := Ground.phase }, { on := 3, ground := Ground.phase }, { on := 4, ground := Ground.phase }, { on := 5, ground := Ground.phase }, { on := 6, ground := Ground.phase }, { on := 7, ground := Ground.phase }, { on := 8, ground := Ground.phase }, { on := 9, ground := Ground.phase }, { on := 10, ground := Ground.phase }, { on := 11, ground := Ground.textOnly Departure.lateStores }, { on := 12, ground := Ground.textOnly Departure.lateStores }, { on := 13, ground := Ground.phase }], guard := none }) (by kernel_rfl) rfl (fun K' hK => ?_)
      rw [if_pos (by rfl)]
      have m0 := cell_of (n := 0) B2.out rfl
      have m1 := cell_of (n := 1) B2.out rfl
      have m2 := froz_at B2.out 0
      have m3 := froz_at B2.out 1
      go_simp
      clear m0 m1 m2 m3
      have B9 := hid (heap_alloc_new v1 (.cells #[.int .u16 kk.1, .string kk.2] 54))
      have T9 := hid (T1.out.alloc (.cells #[.int .u16 kk.1, .string kk.2] 54))
      have s9 : (v1.alloc (.cells #[.int .u16 kk.1, .string kk.2] 54)).heap[r]? = some (.cells #[.string s, .int .i64 x.at_, .int .i64 x.er] 108 (0, 0)) := T9.out.keep qV (by simp)
      refine hK.out _ _ s9 ?_
      clear hK
      try simp only [Go.Act.put, List.setIfInBounds_toArray, List.set_cons_zero, List.set_cons_succ]
      refine wpH_take (i := 15) (v := (.int .i64 nx)) (some 8) rfl rfl (by kernel_rfl) (by kernel_rfl) (by kernel_rfl) (fun _ _ _ h => h) (Or.inl ⟨by rfl, fun w' hS => (by go_simp)⟩) s9 ?_
      try simp only [Go.Act.put, List.setIfInBounds_toArray, List.set_cons_zero, List.set_cons_succ]
      refine wpH_take (i := 16) (v := (.bool th)) (some 9) rfl rfl (by kernel_rfl) (by kernel_rfl) (by kernel_rfl) (fun _ _ _ h => h) (Or.inl ⟨by rfl, fun w' hS => (by go_simp)⟩) s9 ?_
      try simp only [Go.Act.put, List.setIfInBounds_toArray, List.set_cons_zero, List.set_cons_succ]
      refine wpAnyH_done (by kernel_rfl) ?_ _
      go_wp2_with fail
      go_meet
      exact ⟨v1.heap.size, rfl, rfl, rfl, hid ⟨B9.out, T9.out, T1.out.size⟩⟩
    refine AllH.cons (o := { dst := some 7, op := Op.alloc 54, type := 0, pos := _, after := #[], guard := none }) rfl (fun K' hK => ?_) ?_
    · rw [if_pos (by rfl)]
      go_simp
      have s4 := ((Touch.refl [] Wd).alloc (.cells #[.int .u16 0, .string ⟨#[]⟩] 54)).keep s0 (by simp)
      have T4 := hid (T0.out.alloc (.cells #[.int .u16 0, .string ⟨#[]⟩] 54))
      have B4 := hid (heap_alloc_new Wd (.cells #[.int .u16 0, .string ⟨#[]⟩] 54))
      refine hK.out _ _ s4 ?_
      clear hK
      try simp only [Go.Act.put, List.setIfInBounds_toArray, List.set_cons_zero, List.set_cons_succ]
      refine wpH_call (i := 8) (o := { dst := some 21, op := Op.call { callee := Callee.value (Operand.func 130), args := #[Operand.tmp 16, Operand.tmp 20], argTypes := #[9, 3] }, type := 213, pos := _, after := #[{ on := 3, ground := Ground.data }, { on := 7, ground := Ground.data }], guard := none }) (by kernel_rfl) rfl (fun K' hK => ?_)
      rw [if_pos (by rfl)]
      go_simp
      refine (HT.out _).mono ?_
      rintro e v5 ⟨rfl, t5⟩
      have s5 := t5.keep s4 (by simp)
      have T5 := hid (T4.out.trans' t5)
      have B5 := hid (t5.keep B4.out (by simp))
      refine hK.out _ _ s5 ?_
      clear hK
      try simp only [Go.Act.put, List.setIfInBounds_toArray, List.set_cons_zero, List.set_cons_succ]
      refine wpH_take (i := 9) (v := (.tuple #[(.agg #[.int .u16 kk.1, .string kk.2]), (.int .i64 nx), (.bool th)])) (some 12) rfl rfl (by kernel_rfl) (by kernel_rfl) (by kernel_rfl) (fun _ _ _ h => h) (Or.inl ⟨by rfl, fun w' hS => (by go_simp)⟩) s5 ?_
      try simp only [Go.Act.put, List.setIfInBounds_toArray, List.set_cons_zero, List.set_cons_succ]
      refine wpH_take (i := 10) (v := (.agg #[.int .u16 kk.1, .string kk.2])) (some 22) rfl rfl (by kernel_rfl) (by kernel_rfl) (by kernel_rfl) (fun _ _ _ h => h) (Or.inl ⟨by rfl, fun w' hS => (by go_simp)⟩) s5 ?_
      try simp only [Go.Act.put, List.setIfInBounds_toArray, List.set_cons_zero, List.set_cons_succ]
      refine wpH_take (i := 11) (v := (.int .i64 nx)) (some 23) rfl rfl (by kernel_rfl) (by kernel_rfl) (by kernel_rfl) (fun _ _ _ h => h) (Or.inl ⟨by rfl, fun w' hS => (by go_simp)⟩) s5 ?_
      try simp only [Go.Act.put, List.setIfInBounds_toArray, List.set_cons_zero, List.set_cons_succ]
      refine wpH_take (i := 12) (v := (.bool th)) (some 24) rfl rfl (by kernel_rfl) (by kernel_rfl) (by kernel_rfl) (fun _ _ _ h => h) (Or.inl ⟨by rfl, fun w' hS => (by go_simp)⟩) s5 ?_
      try simp only [Go.Act.put, List.setIfInBounds_toArray, List.set_cons_zero, List.set_cons_succ]
      refine wpH_call (i := 14) (o := { dst := none, op := Op.store 54 (Operand.tmp 7) (Operand.tmp 22), type := 0, pos := _, after := #[{ on := 13, ground := Ground.data }, { on := 10, ground := Ground.data }, { on := 8, ground := Ground.chain }, { on := 0, ground := Ground.phase }, { on := 1, ground := Ground.phase }, { on := 2, ground := Ground.phase }, { on := 3, ground := Ground.phase }, { on := 4, ground := Ground.phase }, { on := 5, ground := Ground.phase }, { on := 6, ground := Ground.phase }, { on := 7, ground := Ground.phase }, { on := 8, ground := Ground.phase }, { on := 9, ground := Ground.phase }, { on := 10, ground := Ground.phase }, { on := 11, ground := Ground.textOnly Departure.lateStores }, { on := 12, ground := Ground.textOnly Departure.lateStores }, { on := 13, ground := Ground.phase }], guard := none }) (by kernel_rfl) rfl (fun K' hK => ?_)
      rw [if_pos (by rfl)]
      have m0 := cell_of (n := 0) B5.out rfl
      have m1 := cell_of (n := 1) B5.out rfl
      have m2 := froz_at B5.out 0
      have m3 := froz_at B5.out 1
      go_simp
      clear m0 m1 m2 m3
      have B9 := hid (bset (i := 1) (bset (i := 0) B5.out (.int .u16 kk.1)) (.string kk.2))
      have T9 := hid ((T5.out.setCell (p := ⟨Wd.heap.size, 0, none⟩) (Or.inr T0.out.size) (.int .u16 kk.1)).setCell (p := ⟨Wd.heap.size, 1, none⟩) (Or.inr T0.out.size) (.string kk.2))
      have s9 : ((v5.setCell ⟨Wd.heap.size, 0, none⟩ (.int .u16 kk.1)).setCell ⟨Wd.heap.size, 1, none⟩ (.string kk.2)).heap[r]? = some (.cells #[.string s, .int .i64 x.at_, .int .i64 x.er] 108 (0, 0)) := T9.out.keep qV (by simp)
      refine hK.out _ _ s9 ?_
      clear hK
      try simp only [Go.Act.put, List.setIfInBounds_toArray, List.set_cons_zero, List.set_cons_succ]
      refine wpH_take (i := 15) (v := (.int .i64 nx)) (some 8) rfl rfl (by kernel_rfl) (by kernel_rfl) (by kernel_rfl) (fun _ _ _ h => h) (Or.inl ⟨by rfl, fun w' hS => (by go_simp)⟩) s9 ?_
      try simp only [Go.Act.put, List.setIfInBounds_toArray, List.set_cons_zero, List.set_cons_succ]
      refine wpH_take (i := 16) (v := (.bool th)) (some 9) rfl rfl (by kernel_rfl) (by kernel_rfl) (by kernel_rfl) (fun _ _ _ h => h) (Or.inl ⟨by rfl, fun w' hS => (by go_simp)⟩) s9 ?_
      try simp only [Go.Act.put, List.setIfInBounds_toArray, List.set_cons_zero, List.set_cons_succ]
      refine wpAnyH_done (by kernel_rfl) ?_ _
      go_wp2_with fail
      go_meet
      exact ⟨Wd.heap.size, rfl, rfl, rfl, hid ⟨B9.out, T9.out, T0.out.size⟩⟩
    exact AllH.nil
  case rest =>
    obtain ⟨kb, rfl, rfl, rfl, HC⟩ := hcut
    obtain ⟨hbk, TX, hkl⟩ := HC.out
    obtain ⟨f, hf, hfa⟩ := hm
    have okk : Ok kk := by
      cases th with
      | true =>
        obtain ⟨a1, a2, a3, _⟩ := takK_b (ho1 rfl)
        exact ⟨by simp [Lit.wf, IntKind.min, IntKind.max, IntKind.signed, IntKind.bits]; omega, by unfold maxLen; omega⟩
      | false =>
        rw [(ho2 rfl).2.1]
        exact ⟨by decide, by decide⟩
    have tw : Touch [] w wc := TV.trans' TX
    have hf1 : Me.MapAt wc mb A.length f := hf.kept (tw.block mb hf.lt (by simp))
    have hlk := hf1.lookOk (t := 174) Tryz.underlying174 (zero3 wc) okk
    rw [hfa kk okk] at hlk
    unfold kv at hlk
    have k0 := cell_of (n := 0) hbk rfl
    have k1 := cell_of (n := 1) hbk rfl
    have ner : w.heap.size ≠ r := by have := h.lt; omega
    have HN : Hid (∀ w2, Rq w2 r s (keyG s x A may).1 → Touch [r] wc w2 → ∀ W9, W9 = (w2.setCell ⟨w.heap.size, 0, none⟩ (.int .u16 0)).setCell ⟨w.heap.size, 1, none⟩ (.string ⟨#[]⟩) → W9.heap[w.heap.size]? = some (.cells #[.int .u16 0, .string ⟨#[]⟩] 54 (0, 0)) ∧ Rq W9 r s (keyG s x A may).1 ∧ Touch [r, mb] w W9) := hid (fun w2 q2 t2 W9 h9 => by
      have b7 := boxT t2 (TX.keep hb (by simp)) ner
      have t9 : Touch [w.heap.size] w2 W9 := by rw [h9]; exact ((Touch.refl [w.heap.size] w2).setCell (p := ⟨w.heap.size, 0, none⟩) (Or.inl (by simp)) _).setCell (p := ⟨w.heap.size, 1, none⟩) (Or.inl (by simp)) _
      refine ⟨by rw [h9]; exact bset (i := 1) (bset (i := 0) b7 _) _, t9.keep q2 (by simpa using ner.symm), ?_⟩
      refine (tw.mono (G := [r, mb]) (by simp)).trans ((t2.mono (G := [r, w.heap.size]) (by simp)).trans' (t9.mono (by simp))) (fun k hk => ?_)
      simp at hk
      rcases hk with rfl | rfl
      · exact Or.inl (by simp)
      · exact Or.inr (Nat.le_refl _))
    have HAny := hid (fun w' (t : Touch [] wc w') => HF.out w' (tw.trans' t) kk okk)
    unfold kv newsV PT at HAny
    cases th with
    | false =>
      obtain ⟨o1, o2, o3⟩ := ho2 rfl
      have eK : keyG s x A may = (passS x nx false, zk) := by unfold keyG; rw [o1, o3]
      have HP : Hid (∀ w', Touch [] V w' → Calls Tryz.prog 92 #[.pointer (some ⟨r, 0, none⟩), .int .i64 nx, .bool false] w' fun e w'' => e = .returned (.bool false) ∧ Rq w'' r s (passS x nx false) ∧ Touch [r] w' w'') := hid (fun w' t => (pass_ (h.keep0 (TV.trans' t)) nx false).mono fun e w'' ⟨h1, h2⟩ => ⟨by rw [h1]; unfold passB; split <;> rfl, h2⟩)
      clear o1 o2 o3
      have HEN : Hid (¬ (keyG s x A may).1.er = 0) := hid (by rw [eK]; unfold passS; split <;> simp_all)
      have HKE := hid eK
      clear eK ho1 ho2 hs hi hA
      go_wp2_with (go_at_call 92; refine (HP.out _ TX).mono ?_; rintro e w2 ⟨rfl, q2, t2⟩; have b7 := boxT t2 (TX.keep hb (by simp)) ner; have e0 := cell_of (n := 0) b7 rfl; have e1 := cell_of (n := 1) b7 rfl; have e2 := froz_at b7 0; have e3 := froz_at b7 1)
      obtain ⟨W9, hW9⟩ : ∃ W9, W9 = (w2.setCell ⟨w.heap.size, 0, none⟩ (.int .u16 0)).setCell ⟨w.heap.size, 1, none⟩ (.string ⟨#[]⟩) := ⟨_, rfl⟩
      obtain ⟨b8, q8, t8⟩ := HN.out w2 (by rw [HKE.out]; exact q2) t2 W9 hW9
      rw [← hW9]
      clear hW9 e0 e1 e2 e3
      have y0 : W9.cell? ⟨w.heap.size, 0, none⟩ = some (.int .u16 0) := cell_of b8 rfl
      have y1 : W9.cell? ⟨w.heap.size, 1, none⟩ = some (.string ⟨#[]⟩) := cell_of b8 rfl
      exact bodyPost_ret (v := .agg #[.int .u16 0, .string ⟨#[]⟩]) (by simp [results, Tryz.results96, go_sem, y0, y1]) rfl ⟨by rw [HKE.out]; rfl, q8, t8, fun he => absurd he HEN.out⟩
    | true =>
      have o1 := ho1 rfl
      cases htw : Me.hs A kk with
      | true =>
        have eK : keyG s x A may = (passS x nx false, zk) := by unfold keyG; rw [o1]; simp only; rw [if_pos htw]
        have HP : Hid (∀ w', Touch [] V w' → Calls Tryz.prog 92 #[.pointer (some ⟨r, 0, none⟩), .int .i64 nx, .bool false] w' fun e w'' => e = .returned (.bool false) ∧ Rq w'' r s (passS x nx false) ∧ Touch [r] w' w'') := hid (fun w' t => (pass_ (h.keep0 (TV.trans' t)) nx false).mono fun e w'' ⟨h1, h2⟩ => ⟨by rw [h1]; unfold passB; split <;> rfl, h2⟩)
        rw [htw] at hlk
        clear o1
        have HEN : Hid (¬ (keyG s x A may).1.er = 0) := hid (by rw [eK]; unfold passS; split <;> simp_all)
        have HKE := hid eK
        clear eK ho1 ho2 hs hi hA
        go_wp2_with (go_at_call 92; refine (HP.out _ TX).mono ?_; rintro e w2 ⟨rfl, q2, t2⟩; have b7 := boxT t2 (TX.keep hb (by simp)) ner; have e0 := cell_of (n := 0) b7 rfl; have e1 := cell_of (n := 1) b7 rfl; have e2 := froz_at b7 0; have e3 := froz_at b7 1)
        obtain ⟨W9, hW9⟩ : ∃ W9, W9 = (w2.setCell ⟨w.heap.size, 0, none⟩ (.int .u16 0)).setCell ⟨w.heap.size, 1, none⟩ (.string ⟨#[]⟩) := ⟨_, rfl⟩
        obtain ⟨b8, q8, t8⟩ := HN.out w2 (by rw [HKE.out]; exact q2) t2 W9 hW9
        rw [← hW9]
        clear hW9 e0 e1 e2 e3
        have y0 : W9.cell? ⟨w.heap.size, 0, none⟩ = some (.int .u16 0) := cell_of b8 rfl
        have y1 : W9.cell? ⟨w.heap.size, 1, none⟩ = some (.string ⟨#[]⟩) := cell_of b8 rfl
        exact bodyPost_ret (v := .agg #[.int .u16 0, .string ⟨#[]⟩]) (by simp [results, Tryz.results96, go_sem, y0, y1]) rfl ⟨by rw [HKE.out]; rfl, q8, t8, fun he => absurd he HEN.out⟩
      | false =>
        rw [htw] at hlk
        cases hmay : may kk with
        | false =>
          have eK : keyG s x A may = (passS x nx false, zk) := by unfold keyG; rw [o1]; simp only; rw [if_neg (by rw [htw]; simp), hmay]; refine Prod.ext rfl ?_; show (if passB x false then kk else zk) = zk; unfold passB; split <;> rfl
          have HP : Hid (∀ w', Touch [] V w' → Calls Tryz.prog 92 #[.pointer (some ⟨r, 0, none⟩), .int .i64 nx, .bool false] w' fun e w'' => e = .returned (.bool false) ∧ Rq w'' r s (passS x nx false) ∧ Touch [r] w' w'') := hid (fun w' t => (pass_ (h.keep0 (TV.trans' t)) nx false).mono fun e w'' ⟨h1, h2⟩ => ⟨by rw [h1]; unfold passB; split <;> rfl, h2⟩)
          rw [hmay] at HAny
          clear o1
          have HEN : Hid (¬ (keyG s x A may).1.er = 0) := hid (by rw [eK]; unfold passS; split <;> simp_all)
          have HKE := hid eK
          clear eK ho1 ho2 hs hi hA
          go_wp2_with (first | (go_at_call 108; refine (HAny.out _ (Touch.refl _ _)).mono ?_; rintro e w1 ⟨rfl, s1⟩; have U1 : Touch [] V w1 := TX.trans' s1) | (go_at_call 92; refine (HP.out _ U1).mono ?_; rintro e w2 ⟨rfl, q2, t2⟩; have b7 := boxT t2 (U1.keep hb (by simp)) ner; have e0 := cell_of (n := 0) b7 rfl; have e1 := cell_of (n := 1) b7 rfl; have e2 := froz_at b7 0; have e3 := froz_at b7 1))
          obtain ⟨W9, hW9⟩ : ∃ W9, W9 = (w2.setCell ⟨w.heap.size, 0, none⟩ (.int .u16 0)).setCell ⟨w.heap.size, 1, none⟩ (.string ⟨#[]⟩) := ⟨_, rfl⟩
          obtain ⟨b8, q8, t8⟩ := HN.out w2 (by rw [HKE.out]; exact q2) (((Touch.refl [r] wc).trans' (s1.mono (by simp))).trans' t2) W9 hW9
          rw [← hW9]
          clear hW9 e0 e1 e2 e3
          have y0 : W9.cell? ⟨w.heap.size, 0, none⟩ = some (.int .u16 0) := cell_of b8 rfl
          have y1 : W9.cell? ⟨w.heap.size, 1, none⟩ = some (.string ⟨#[]⟩) := cell_of b8 rfl
          exact bodyPost_ret (v := .agg #[.int .u16 0, .string ⟨#[]⟩]) (by simp [results, Tryz.results96, go_sem, y0, y1]) rfl ⟨by rw [HKE.out]; rfl, q8, t8, fun he => absurd he HEN.out⟩
        | true =>
          rw [hmay] at HAny
          by_cases hx : x.er = 0
          · have eK : keyG s x A may = (⟨nx, 0⟩, kk) := by
              unfold keyG; rw [o1]; simp only; rw [if_neg (by rw [htw]; simp), hmay]
              have e1 : passB x true = true := by unfold passB; rw [if_neg (by simpa using hx)]
              have e2 : passS x nx true = ⟨nx, 0⟩ := by unfold passS; rw [if_neg (by simpa using hx), if_pos rfl]
              rw [e1, e2]; rfl
            have HP : Hid (∀ w', Touch [] V w' → Calls Tryz.prog 92 #[.pointer (some ⟨r, 0, none⟩), .int .i64 nx, .bool true] w' fun e w'' => e = .returned (.bool true) ∧ Rq w'' r s ⟨nx, 0⟩ ∧ Touch [r] w' w'') := hid (fun w' t => (pass_ (h.keep0 (TV.trans' t)) nx true).mono fun e w'' ⟨h1, h2⟩ => ⟨by rw [h1]; unfold passB; rw [if_neg (by simpa using hx)], by
              have e2 : passS x nx true = ⟨nx, 0⟩ := by unfold passS; rw [if_neg (by simpa using hx), if_pos rfl]
              rw [e2] at h2; exact h2⟩)
            have nmr : mb ≠ r := MapAt.ne_block hf h
            have nmb : mb ≠ w.heap.size := by have := hf.lt; omega
            have nkb : kb ≠ mb := by have := hf.lt; have := TV.size; omega
            have nkr : kb ≠ r := by have := h.lt; have := TV.size; omega
            have HMP : Hid (∀ w1 w2, Touch [] wc w1 → Touch [r] w1 w2 → ∃ ob, (Builtin.len_ #[174] 3 #[.map (some mb)]).run Tryz.prog w2 = .ok (.int .i64 (A.length : Int)) w2 ∧ (Instr.mapUpdate 174 (.map (some mb)) (kv kk) (.int .i64 (A.length : Int))).run Tryz.prog w2 = .ok () (setBlock w2 mb ob) ∧ Me.MapAt (setBlock w2 mb ob) mb (A.length + 1) (Me.upd f kk (.int .i64 (A.length : Int)))) := hid (fun w1 w2 s1 t2 => by
              have hf2 : Me.MapAt w2 mb A.length f := (hf1.kept (s1.block mb hf1.lt (by simp))).kept (t2.block mb (Nat.lt_of_lt_of_le hf1.lt s1.size) (by simpa using nmr))
              obtain ⟨ob, h1, h2⟩ := hf2.set (t := 174) Tryz.underlying174 (by unfold maxLen; omega) okk (.int .i64 (A.length : Int))
              rw [hfa kk okk, htw] at h2
              exact ⟨ob, hf2.len Tryz.underlying174 3, h1, h2⟩)
            have HAH : Hid (∀ W9, Me.MapAt W9 mb (A.length + 1) (Me.upd f kk (.int .i64 (A.length : Int))) → Ah W9 mb (A ++ [kk])) := hid (fun W9 hm9 => ⟨_, by rw [List.length_append]; exact hm9, fun j hj => by
              unfold Me.upd
              by_cases hjk : j = kk
              · rw [if_pos hjk, hjk]
                exact (hs_yes (by simp)).symm
              · rw [if_neg hjk, hfa j hj]
                unfold Me.hs
                rw [List.any_append]
                simp [Ne.symm hjk]⟩)
            unfold kv at HMP
            have HKE := hid eK
            have HTW := hid tw
            clear eK ho1 ho2 hs hi hA o1 HN
            go_wp2_with (first
              | (go_at_call 108; refine (HAny.out _ (Touch.refl _ _)).mono ?_; rintro e w1 ⟨rfl, s1⟩; have U1 : Touch [] V w1 := TX.trans' s1)
              | (go_at_call 92; refine (HP.out _ U1).mono ?_; rintro e w2 ⟨rfl, q2, t2⟩; obtain ⟨ob, hln, hup, hm2⟩ := HMP.out w1 w2 s1 t2; have b7 := boxT t2 (U1.keep hb (by simp)) ner; have c7 := boxT t2 (s1.keep hbk (by simp)) nkr; have b8 : (setBlock w2 mb ob).heap[w.heap.size]? = _ := (setBlock_other w2 mb ob nmb.symm).trans b7; have c8 : (setBlock w2 mb ob).heap[kb]? = _ := (setBlock_other w2 mb ob nkb).trans c7; have d0 := cell_of (n := 0) c7 rfl; have d1 := cell_of (n := 1) c7 rfl; have e0 := cell_of (n := 0) b8 rfl; have e1 := cell_of (n := 1) b8 rfl; have e2 := froz_at b8 0; have e3 := froz_at b8 1; have d2 := cell_of (n := 0) c8 rfl; have d3 := cell_of (n := 1) c8 rfl))
            obtain ⟨W9, hW9⟩ : ∃ W9, W9 = ((setBlock w2 mb ob).setCell ⟨w.heap.size, 0, none⟩ (.int .u16 kk.1)).setCell ⟨w.heap.size, 1, none⟩ (.string kk.2) := ⟨_, rfl⟩
            rw [← hW9]
            have t9 : Touch [w.heap.size] (setBlock w2 mb ob) W9 := by rw [hW9]; exact ((Touch.refl [w.heap.size] (setBlock w2 mb ob)).setCell (p := ⟨w.heap.size, 0, none⟩) (Or.inl (by simp)) _).setCell (p := ⟨w.heap.size, 1, none⟩) (Or.inl (by simp)) _
            have b9 : W9.heap[w.heap.size]? = some (.cells #[.int .u16 kk.1, .string kk.2] 54 (0, 0)) := by rw [hW9]; exact bset (i := 1) (bset (i := 0) b8 _) _
            have q9 : Rq W9 r s ⟨nx, 0⟩ := t9.keep ((setBlock_other w2 mb ob nmr.symm).trans q2) (by simpa using ner.symm)
            have m9 := HAH.out W9 (hm2.kept (t9.block mb hm2.lt (by simpa using nmb)))
            have t8 : Touch [r, mb] w W9 := (HTW.out.mono (G := [r, mb]) (by simp)).trans ((s1.mono (G := [r, mb, w.heap.size]) (by simp)).trans' ((touch_setBlock (t2.mono (G := [r, mb, w.heap.size]) (by simp)) (Or.inl (by simp)) ob).trans' (t9.mono (by simp)))) (fun k hk => by
              simp at hk
              rcases hk with rfl | rfl | rfl
              · exact Or.inl (by simp)
              · exact Or.inl (by simp)
              · exact Or.inr (Nat.le_refl _))
            clear hW9 e0 e1 e2 e3 d0 d1 d2 d3 hln hup hm2 b8 c8 b7 c7
            have y0 : W9.cell? ⟨w.heap.size, 0, none⟩ = some (.int .u16 kk.1) := cell_of b9 rfl
            have y1 : W9.cell? ⟨w.heap.size, 1, none⟩ = some (.string kk.2) := cell_of b9 rfl
            exact bodyPost_ret (v := .agg #[.int .u16 kk.1, .string kk.2]) (by simp [results, Tryz.results96, go_sem, y0, y1]) rfl ⟨by rw [HKE.out]; rfl, by rw [HKE.out]; exact q9, t8, fun _ => by rw [HKE.out]; exact m9⟩
          · have eK : keyG s x A may = (passS x nx true, zk) := by
              unfold keyG; rw [o1]; simp only; rw [if_neg (by rw [htw]; simp), hmay]
              have : passB x true = false := by unfold passB; rw [if_pos hx]
              rw [this]; rfl
            have HP : Hid (∀ w', Touch [] V w' → Calls Tryz.prog 92 #[.pointer (some ⟨r, 0, none⟩), .int .i64 nx, .bool true] w' fun e w'' => e = .returned (.bool false) ∧ Rq w'' r s (passS x nx true) ∧ Touch [r] w' w'') := hid (fun w' t => (pass_ (h.keep0 (TV.trans' t)) nx true).mono fun e w'' ⟨h1, h2⟩ => ⟨by rw [h1]; unfold passB; rw [if_pos hx], h2⟩)
            clear o1
            have HEN : Hid (¬ (keyG s x A may).1.er = 0) := hid (by rw [eK]; unfold passS; rw [if_pos hx]; exact hx)
            have HKE := hid eK
            clear eK ho1 ho2 hs hi hA
            go_wp2_with (first | (go_at_call 108; refine (HAny.out _ (Touch.refl _ _)).mono ?_; rintro e w1 ⟨rfl, s1⟩; have U1 : Touch [] V w1 := TX.trans' s1) | (go_at_call 92; refine (HP.out _ U1).mono ?_; rintro e w2 ⟨rfl, q2, t2⟩; have b7 := boxT t2 (U1.keep hb (by simp)) ner; have e0 := cell_of (n := 0) b7 rfl; have e1 := cell_of (n := 1) b7 rfl; have e2 := froz_at b7 0; have e3 := froz_at b7 1))
            obtain ⟨W9, hW9⟩ : ∃ W9, W9 = (w2.setCell ⟨w.heap.size, 0, none⟩ (.int .u16 0)).setCell ⟨w.heap.size, 1, none⟩ (.string ⟨#[]⟩) := ⟨_, rfl⟩
            obtain ⟨b8, q8, t8⟩ := HN.out w2 (by rw [HKE.out]; exact q2) (((Touch.refl [r] wc).trans' (s1.mono (by simp))).trans' t2) W9 hW9
            rw [← hW9]
            clear hW9 e0 e1 e2 e3
            have y0 : W9.cell? ⟨w.heap.size, 0, none⟩ = some (.int .u16 0) := cell_of b8 rfl
            have y1 : W9.cell? ⟨w.heap.size, 1, none⟩ = some (.string ⟨#[]⟩) := cell_of b8 rfl
            exact bodyPost_ret (v := .agg #[.int .u16 0, .string ⟨#[]⟩]) (by simp [results, Tryz.results96, go_sem, y0, y1]) rfl ⟨by rw [HKE.out]; rfl, q8, t8, fun he => absurd he HEN.out⟩
theorem keyC_b {r m gb ob : Nat} {s : ByteArray} {may : K → Bool} {w : World} (hs : s.size ≤ 140737488351232) (HF : ∀ w', Touch [r] w w' → ∀ k, Ok k → Calls Tryz.prog 108 #[newsV m gb ob, kv k] w' fun e w'' => e = .returned (.bool (may k)) ∧ Touch [] w' w'') : KeyC (.func (.func 108) #[newsV m gb ob] #[]) r s may w := fun w' mb x A t h hm hi hA => key_gb (hid (fun w2 t2 => HF w2 (t.trans' (t2.mono (by simp))))) h hm hi hs hA
end Go.Proofs.YtpefbmheblfbeaaGreat.Sn
/- The contract of the statements' own stands, of a memo and the document's that keep the same; no conditions but those that it states. -/
namespace Go.Proofs.YtpefbmheblfbeaaGreat.Sn
open Go.RowKit Go.Sort Go.Shelf Me
set_option linter.unusedVariables false
set_option linter.unusedSimpArgs false
theorem own7_cell {w : World} {B t : Nat} {a : Option Addr} {n c : Nat} {xs : List En} (h : w.ownsRow B t 7 (.slice a n c) xs.length (cellsN xs)) {i : Nat} (hi : i < xs.length) : ∃ g off, a = some ⟨g, off, none⟩ ∧ w.cell? ⟨g, off + i * 7, none⟩ = some (.int .u16 xs[i].1.1) ∧ w.cell? ⟨g, off + i * 7 + 1, none⟩ = some (.string xs[i].1.2) ∧ w.cell? ⟨g, off + i * 7 + 2, none⟩ = some (.int .i64 xs[i].2.1.1) ∧ w.cell? ⟨g, off + i * 7 + 3, none⟩ = some (.int .i64 xs[i].2.1.2.1) ∧ w.cell? ⟨g, off + i * 7 + 4, none⟩ = some (.int .i64 xs[i].2.1.2.2.1) ∧ w.cell? ⟨g, off + i * 7 + 5, none⟩ = some (.int .i64 xs[i].2.1.2.2.2) ∧ w.cell? ⟨g, off + i * 7 + 6, none⟩ = some (.int .i64 xs[i].2.2) := by
  obtain ⟨a', c', e1, _, h3⟩ := RN.own h
  obtain ⟨g, off, e2, hat⟩ := h3 (by omega)
  cases e1
  have q := fun j (hj : j < 7) (y : Value) (hy : (nl xs[i])[j]? = some y) => hat.cell i j hi hj hy
  exact ⟨g, off, e2, by simpa using q 0 (by omega) _ rfl, by simpa [Nat.add_assoc] using q 1 (by omega) _ rfl, by simpa [Nat.add_assoc] using q 2 (by omega) _ rfl, by simpa [Nat.add_assoc] using q 3 (by omega) _ rfl, by simpa [Nat.add_assoc] using q 4 (by omega) _ rfl, by simpa [Nat.add_assoc] using q 5 (by omega) _ rfl, by simpa [Nat.add_assoc] using q 6 (by omega) _ rfl⟩
end Go.Proofs.YtpefbmheblfbeaaGreat.Sn
