/- The contract of the law's keep; no conditions but those that it states. -/
import Derived.Test.YtopepalpmkeffaaGmv
import Derived.Test.YtopepalpmkeffaaDkw
import Derived.Test.YtopepalpmkeffaaItr
import Derived.Test.YtopepalpmkeffaaHlh
import Derived.Test.YtopepalpmkeffaaDsw
import Derived.Test.YtopepalpmkeffaaPut
import Derived.Test.YtopepalpmkeffaaKep
import Derived.Shelf.SlMaps.Clone
namespace Go.Proofs.Ytopepalpmkeffaa
open Go.RowKit Go.Sort Go.Maps Go.ChangeMaps Go.WideMaps
set_option linter.unusedVariables false
set_option linter.unusedSimpArgs false
theorem RT.apart {t : Nat} {w w' : World} {v : Value} {xs : List K} {r : Nat} {cs : Array Value} {ty : TypeId} (h : RT t w v xs) (hr : w.heap[r]? = some (.cells cs ty (0, 0))) (ht : ty ≠ t) (tt : Touch [r] w w') : RT t w' v xs := h.touch tt (fun b hb hh => by
  simp only [List.mem_singleton] at hh
  subst hh
  obtain ⟨cs', h'⟩ := h.kind hb
  rw [hr] at h'
  simp at h'
  exact ht h'.2)
theorem keepE_no {now n : Int} {k : K} (x : O) (h : askE now n k ≠ 0) : keepE now n k x = askE now n k := by
  unfold keepE askE pairE at *
  by_cases h1 : tickE now n = 0
  · rw [if_pos h1] at *
    by_cases h2 : 64 < k.2.size
    · rw [if_pos h2] at *; rw [if_pos h1, if_pos h2]
    · rw [if_neg h2] at h; exact absurd rfl h
  · rw [if_neg h1, if_neg h1]
theorem keepE_right {now n : Int} {k : K} {x : O} (h : askE now n k = 0) : keepE now n k x = if right x then 0 else 30 := by
  unfold keepE askE pairE at *
  by_cases h1 : tickE now n = 0
  · rw [if_pos h1] at *
    by_cases h2 : 64 < k.2.size
    · rw [if_pos h2] at h; cases h
    · rw [if_neg h2]
  · rw [if_neg h1] at h; exact absurd h h1
theorem rkeep60 (w : World) (c : Cf) (v : Value) (xs : List En) (x : En) (oc : okC c = true) (hxl : (xs.length : Int) ≤ c.e) (h : RN 62 w v xs) (hd : (keysL xs).Nodup) (hr : right x.2.1 = true) :
    Calls Try.prog 60 #[cv c, v, rnv x] w fun z w' => ∃ v1 v2, z = .returned (.tuple #[v1, .bool (keepsC c x.2.1), v2]) ∧ RN 62 w' v1 (if keepsC c x.2.1 then putL c.e xs x.1 x.2 else xs) ∧ RT 57 w' v2 (if keepsC c x.2.1 then goneL c.e xs x.1 else []) ∧ Touch [] w w' := by
  cases hk : keepsC c x.2.1 with
  | false =>
    refine (rkeep60_not w c v xs x h hr hk).mono ?_
    rintro z w' ⟨rfl, t⟩
    exact ⟨v, _, rfl, h.keep t, RT.nil _ _, t⟩
  | true =>
    obtain ⟨e, he⟩ : ∃ e : Nat, c.e = (e : Int) := ⟨c.e.toNat, by have := (okC_e oc).1; omega⟩
    refine (rkeep60_yes w c v xs x e he (by have := (okC_e oc).2; omega) (by omega) h hd hr hk).mono ?_
    rintro z w' ⟨v1, v2, rfl, k1, k2, k3⟩
    refine ⟨v1, v2, rfl, ?_, ?_, k3⟩
    · rw [if_pos rfl, he]; exact k1
    · rw [if_pos rfl, he]; exact k2
theorem goneL_len (e : Int) (xs : List En) (k : K) : (goneL e xs k).length ≤ 1 := by
  unfold goneL
  split <;> simp
set_option maxHeartbeats 8000000 in
set_option maxRecDepth 100000 in
theorem keep38 (w : World) (m : Nat) (F : List Nat) (c : Cf) (now : Int) (xs : List En) (v : Value) (a : ActM) (h : Mq w m F c now xs) (hr : RN 62 w v xs) (ok : Ok a.k) : Calls Try.prog 38 #[PT m, mvv c v now, avv a] w (PlQ w m F c) := by
  obtain ⟨a1, c1, rfl, hcp1, hg1⟩ := hr
  have hr : RN 62 w (.slice a1 xs.length c1) xs := ⟨a1, c1, rfl, hcp1, hg1⟩
  have HF := hid h.lt
  obtain ⟨V, hV⟩ : ∃ V, V = ((w.alloc (mbx c (.slice a1 xs.length c1) now)).alloc (abx a)).alloc mzx := ⟨_, rfl⟩
  have TV : Touch [] w V := by rw [hV]; exact (((Touch.refl _ _).alloc _).alloc _).alloc _
  have PV : Hid (PlS w m F c a (.slice a1 xs.length c1) now now xs xs V) := hid (PlS.start h hr (by rw [hV]; exact Bx.mk' w c a _ now) TV)
  obtain ⟨n1, hn1⟩ : ∃ n1, n1 = xs.length := ⟨_, rfl⟩
  rw [← hn1] at PV hV ⊢
  have HA1 := hid (fun w => at34 w c a1 n1 c1 now a)
  obtain ⟨n, hn⟩ : ∃ n, n = atN now a := ⟨_, rfl⟩
  rw [← hn] at HA1
  have HGd := hid (And.intro h.gd (And.intro h.nd h.len))
  clear hn hn1 hg1 hr h TV
  obtain ⟨er, her⟩ : ∃ er, er = askE now n a.k := ⟨_, rfl⟩
  have HWr : Hid (∀ w', Calls Try.prog 35 #[mvv c (.slice a1 n1 c1) now, .int .i64 n, .agg #[.int .u16 a.k.1, .string a.k.2]] w' fun e w'' => e = .returned (.int .i64 er) ∧ Touch [] w' w'') := hid (fun w' => by rw [her]; exact wrong35 w' c a1 n1 c1 now n a.k ok.2)
  obtain ⟨kb, hkb⟩ : ∃ kb, kb = kpB c now n a.k a.o := ⟨_, rfl⟩
  obtain ⟨ke, hke⟩ : ∃ ke, ke = keepE now n a.k a.o := ⟨_, rfl⟩
  obtain ⟨gs, hgs⟩ : ∃ gs, gs = kpG c now n xs a.k a.o := ⟨_, rfl⟩
  obtain ⟨gn, hgn⟩ : ∃ gn, gn = gs.length := ⟨_, rfl⟩
  have HKp : Hid (∀ w1, PlS w m F c a (.slice a1 n1 c1) now now xs xs w1 → Calls Try.prog 18 #[.pointer (some ⟨m, 0, none⟩), .int .i64 n, .agg #[.int .u16 a.k.1, .string a.k.2], .agg #[.int .i64 a.o.1, .int .i64 a.o.2.1, .int .i64 a.o.2.2.1, .int .i64 a.o.2.2.2]] w1 fun e w' => ∃ a3 c3, e = .returned (.tuple #[.bool kb, .slice a3 gn c3, .int .i64 ke]) ∧ RT 39 w' (.slice a3 gn c3) gs ∧ PlS w m F c a (.slice a1 n1 c1) now (kpN now n a.k a.o) xs (kpX c now n xs a.k a.o) w') := hid (fun w1 P1 => by
    refine (P1.call (Q := fun e w' => ∃ u, e = .returned (.tuple #[.bool kb, u, .int .i64 ke]) ∧ RT 39 w' u gs) (N := fun _ => kpN now n a.k a.o) (Y := fun _ => kpX c now n xs a.k a.o) (fun F' q => (keepM w1 m F' c now n xs q a.k ok a.o).mono (by
      rintro e w' ⟨u, rfl, k1, k2⟩
      exact ⟨⟨u, by rw [hkb, hke], by rw [hgs]; exact k1⟩, k2⟩))).mono ?_
    rintro e w' ⟨⟨u, rfl, k1⟩, k2⟩
    obtain ⟨a3, c3, rfl, _⟩ := k1.form
    rw [← hgn] at k1 ⊢
    exact ⟨a3, c3, rfl, k1, k2⟩)
  have HR := hid her
  have HKB := hid hkb
  have HKE := hid hke
  have HGS := hid hgs
  have HGN := hid hgn
  clear her hkb hke hgs hgn
  have C := PV.out.bx.cs
  obtain ⟨a0, a1', a2, a3, a4, a5, a6, a7, a8, b0, b1, b2, b3, b4, b5, b6, b7, b8, fA⟩ := C
  unfold mvv avv at HA1
  unfold mvv at HWr
  unfold mvv avv PT
  unfold mbx abx mzx at hV
  go_enter Try.func38, Try.ntmps38
  go_upto_region 1 with fail
  rw [← hV]
  clear hV
  go_upto_region 2 with (go_at_call 34; refine (HA1.out _).mono ?_; rintro e w1 ⟨rfl, t1⟩; have P1 := hid (PV.out.keep0 t1); clear t1)
  clear a0 a1' a2 a3 a4 a5 a6 a7 a8 b0 b1 b2 b3 b4 b5 b6 b7 b8 fA
  obtain ⟨b3, b4, b5, b6, b7, b8⟩ : w1.cell? ⟨w.heap.size + 1, 3, none⟩ = some (.int .u16 a.k.1) ∧ w1.cell? ⟨w.heap.size + 1, 4, none⟩ = some (.string a.k.2) ∧ w1.cell? ⟨w.heap.size + 1, 5, none⟩ = some (.int .i64 a.o.1) ∧ w1.cell? ⟨w.heap.size + 1, 6, none⟩ = some (.int .i64 a.o.2.1) ∧ w1.cell? ⟨w.heap.size + 1, 7, none⟩ = some (.int .i64 a.o.2.2.1) ∧ w1.cell? ⟨w.heap.size + 1, 8, none⟩ = some (.int .i64 a.o.2.2.2) := ⟨P1.out.bx.cs.b3, P1.out.bx.cs.b4, P1.out.bx.cs.b5, P1.out.bx.cs.b6, P1.out.bx.cs.b7, P1.out.bx.cs.b8⟩
  go_upto_region 3 with (go_at_call 18; refine (HKp.out _ P1.out).mono ?_; rintro e w2 ⟨a3, c3, rfl, r2, q2⟩; have P2 := hid q2; have R2 := hid r2; clear r2 q2)
  clear b3 b4 b5 b6 b7 b8
  obtain ⟨a0, a1', a2, a3', a4, a5, a6, a7, a8, b0, b1, b2, b3, b4, b5, b6, b7, b8, fA⟩ := P2.out.bx.cs
  go_upto_region 4 with (go_at_call 35; refine (HWr.out _).mono ?_; rintro e w3 ⟨rfl, t3⟩; have P3 := hid (P2.out.keep0 t3); have R3 := hid (R2.out.keep t3); clear t3)
  clear a0 a1' a2 a3' a4 a5 a6 a7 a8 b0 b1 b2 b3 b4 b5 b6 b7 b8 fA P1 P2 R2 PV HKp HWr HA1
  by_cases hne : er ≠ 0
  · have hk0 : ke = er := by rw [HKE.out, HR.out]; exact keepE_no _ (by rw [← HR.out]; exact hne)
    have hke : ¬ keepE now n a.k a.o = 0 := by rw [← HKE.out, hk0]; exact hne
    have P4 : Hid (PlS w m F c a (.slice a1 n1 c1) now now xs xs w3) := hid (by have h := P3.out; unfold kpN kpX kpB at h; rw [if_neg hke, decide_eq_false hke] at h; exact h)
    obtain ⟨rfl, rfl⟩ : gn = 0 ∧ kb = false := ⟨by rw [HGN.out, HGS.out]; unfold kpG kpB; rw [decide_eq_false hke]; rfl, by rw [HKB.out]; unfold kpB; rw [decide_eq_false hke]; rfl⟩
    subst hk0
    obtain ⟨a0, a1', a2, a3', a4, a5, a6, a7, a8, b0, b1, b2, b3, b4, b5, b6, b7, b8, fA⟩ := P4.out.bx.cs
    have S0 := P4.out.bx.sr
    obtain ⟨q0, q1, q2, q3, q4, q5, q6, q7, q8⟩ : w3.cell? ⟨w.heap.size + 1 + 1, 0, none⟩ = some (gc w3 (w.heap.size + 1 + 1) 0) ∧ w3.cell? ⟨w.heap.size + 1 + 1, 1, none⟩ = some (gc w3 (w.heap.size + 1 + 1) 1) ∧ w3.cell? ⟨w.heap.size + 1 + 1, 2, none⟩ = some (gc w3 (w.heap.size + 1 + 1) 2) ∧ w3.cell? ⟨w.heap.size + 1 + 1, 3, none⟩ = some (gc w3 (w.heap.size + 1 + 1) 3) ∧ w3.cell? ⟨w.heap.size + 1 + 1, 4, none⟩ = some (gc w3 (w.heap.size + 1 + 1) 4) ∧ w3.cell? ⟨w.heap.size + 1 + 1, 5, none⟩ = some (gc w3 (w.heap.size + 1 + 1) 5) ∧ w3.cell? ⟨w.heap.size + 1 + 1, 6, none⟩ = some (gc w3 (w.heap.size + 1 + 1) 6) ∧ w3.cell? ⟨w.heap.size + 1 + 1, 7, none⟩ = some (gc w3 (w.heap.size + 1 + 1) 7) ∧ w3.cell? ⟨w.heap.size + 1 + 1, 8, none⟩ = some (gc w3 (w.heap.size + 1 + 1) 8) := ⟨S0.cell 0 (by omega), S0.cell 1 (by omega), S0.cell 2 (by omega), S0.cell 3 (by omega), S0.cell 4 (by omega), S0.cell 5 (by omega), S0.cell 6 (by omega), S0.cell 7 (by omega), S0.cell 8 (by omega)⟩
    have qf := fun i => S0.frozen i
    clear S0 hke HKE HR HGN HGS HKB
    go_wp2_with fail
    refine bodyPost_ret (v := .tuple #[.agg #[.int .i64 c.t, .int .i64 c.n, .int .i64 c.s, .int .i64 c.e, .int .i64 c.f, .int .i64 c.b, .int .i64 c.d, .slice a1 n1 c1, .int .i64 now], .bool true]) (by simp [results, Try.results38, go_sem, q0, q1, q2, q3, q4, q5, q6, q7, q8]) rfl ?_
    exact ⟨a1, n1, c1, now, xs, rfl, P4.out.fin HF.out (tset9 _ _ _ _ _ _ _ _ _ _ _)⟩
  · obtain rfl : er = 0 := Classical.not_not.1 hne
    have HO := hid (fun w => outcome42 w a.o)
    have HRt := hid (fun w => rright43 w a.o)
    unfold ov at HO HRt
    have hkr := keepE_right (x := a.o) HR.out.symm
    rw [← HKE.out] at hkr
    cases hrt : right a.o with
    | false =>
      rw [hrt, if_neg (by simp)] at hkr
      rw [hrt] at HRt
      have hke : ¬ keepE now n a.k a.o = 0 := by rw [← HKE.out, hkr]; decide
      have P4 : Hid (PlS w m F c a (.slice a1 n1 c1) now now xs xs w3) := hid (by have h := P3.out; unfold kpN kpX kpB at h; rw [if_neg hke, decide_eq_false hke] at h; exact h)
      obtain ⟨rfl, rfl⟩ : gn = 0 ∧ kb = false := ⟨by rw [HGN.out, HGS.out]; unfold kpG kpB; rw [decide_eq_false hke]; rfl, by rw [HKB.out]; unfold kpB; rw [decide_eq_false hke]; rfl⟩
      subst hkr
      obtain ⟨b5, b6, b7, b8⟩ : w3.cell? ⟨w.heap.size + 1, 5, none⟩ = some (.int .i64 a.o.1) ∧ w3.cell? ⟨w.heap.size + 1, 6, none⟩ = some (.int .i64 a.o.2.1) ∧ w3.cell? ⟨w.heap.size + 1, 7, none⟩ = some (.int .i64 a.o.2.2.1) ∧ w3.cell? ⟨w.heap.size + 1, 8, none⟩ = some (.int .i64 a.o.2.2.2) := ⟨P4.out.bx.cs.b5, P4.out.bx.cs.b6, P4.out.bx.cs.b7, P4.out.bx.cs.b8⟩
      clear hke HKE HR HGN HGS HKB
      go_upto_region 5 with (first
        | (go_at_call 42; refine (HO.out _).mono ?_; rintro e w4 ⟨rfl, t4⟩; have T4 := hid t4; clear t4)
        | (go_at_call 43; refine (HRt.out _).mono ?_; rintro e w5 ⟨rfl, t5⟩; have P5 := hid ((P4.out.keep0 T4.out).keep0 t5); clear t5))
      clear b5 b6 b7 b8
      obtain ⟨a0, a1', a2, a3', a4, a5, a6, a7, a8, b0, b1, b2, b3, b4, b5, b6, b7, b8, fA⟩ := P5.out.bx.cs
      have S0 := P5.out.bx.sr
      obtain ⟨q0, q1, q2, q3, q4, q5, q6, q7, q8⟩ : w5.cell? ⟨w.heap.size + 1 + 1, 0, none⟩ = some (gc w5 (w.heap.size + 1 + 1) 0) ∧ w5.cell? ⟨w.heap.size + 1 + 1, 1, none⟩ = some (gc w5 (w.heap.size + 1 + 1) 1) ∧ w5.cell? ⟨w.heap.size + 1 + 1, 2, none⟩ = some (gc w5 (w.heap.size + 1 + 1) 2) ∧ w5.cell? ⟨w.heap.size + 1 + 1, 3, none⟩ = some (gc w5 (w.heap.size + 1 + 1) 3) ∧ w5.cell? ⟨w.heap.size + 1 + 1, 4, none⟩ = some (gc w5 (w.heap.size + 1 + 1) 4) ∧ w5.cell? ⟨w.heap.size + 1 + 1, 5, none⟩ = some (gc w5 (w.heap.size + 1 + 1) 5) ∧ w5.cell? ⟨w.heap.size + 1 + 1, 6, none⟩ = some (gc w5 (w.heap.size + 1 + 1) 6) ∧ w5.cell? ⟨w.heap.size + 1 + 1, 7, none⟩ = some (gc w5 (w.heap.size + 1 + 1) 7) ∧ w5.cell? ⟨w.heap.size + 1 + 1, 8, none⟩ = some (gc w5 (w.heap.size + 1 + 1) 8) := ⟨S0.cell 0 (by omega), S0.cell 1 (by omega), S0.cell 2 (by omega), S0.cell 3 (by omega), S0.cell 4 (by omega), S0.cell 5 (by omega), S0.cell 6 (by omega), S0.cell 7 (by omega), S0.cell 8 (by omega)⟩
      have qf := fun i => S0.frozen i
      clear S0
      go_wp2_with fail
      refine bodyPost_ret (v := .tuple #[.agg #[.int .i64 c.t, .int .i64 c.n, .int .i64 c.s, .int .i64 c.e, .int .i64 c.f, .int .i64 c.b, .int .i64 c.d, .slice a1 n1 c1, .int .i64 now], .bool true]) (by simp [results, Try.results38, go_sem, q0, q1, q2, q3, q4, q5, q6, q7, q8]) rfl ?_
      exact ⟨a1, n1, c1, now, xs, rfl, P5.out.fin HF.out (tset9 _ _ _ _ _ _ _ _ _ _ _)⟩
    | true =>
      rw [hrt, if_pos rfl] at hkr
      have HRT := hid hrt
      rw [hrt] at HRt
      have hke : keepE now n a.k a.o = 0 := by rw [← HKE.out, hkr]
      have hkc : kb = keepsC c a.o := by rw [HKB.out]; unfold kpB; rw [decide_eq_true hke]; rfl
      have HKC := hid hkc
      have HXs : Hid (kpX c now n xs a.k a.o = (if kb then putL c.e xs a.k (a.o, n) else xs)) := hid (by unfold kpX; rw [← HKB.out])
      have HGs : Hid (gs = if kb then goneL c.e xs a.k else []) := hid (by rw [HGS.out]; unfold kpG; rw [← HKB.out])
      have HNn : Hid (kpN now n a.k a.o = n) := hid (by unfold kpN; rw [if_pos hke])
      subst hkr
      clear hke hkc hrt HKE HR
      obtain ⟨b5, b6, b7, b8⟩ : w3.cell? ⟨w.heap.size + 1, 5, none⟩ = some (.int .i64 a.o.1) ∧ w3.cell? ⟨w.heap.size + 1, 6, none⟩ = some (.int .i64 a.o.2.1) ∧ w3.cell? ⟨w.heap.size + 1, 7, none⟩ = some (.int .i64 a.o.2.2.1) ∧ w3.cell? ⟨w.heap.size + 1, 8, none⟩ = some (.int .i64 a.o.2.2.2) := ⟨P3.out.bx.cs.b5, P3.out.bx.cs.b6, P3.out.bx.cs.b7, P3.out.bx.cs.b8⟩
      go_upto_region 8 with (first
        | (go_at_call 42; refine (HO.out _).mono ?_; rintro e w4 ⟨rfl, t4⟩; have T4 := hid t4; clear t4)
        | (go_at_call 43; refine (HRt.out _).mono ?_; rintro e w5 ⟨rfl, t5⟩; have P5 := hid ((P3.out.keep0 T4.out).keep0 t5); have R5 := hid ((R3.out.keep T4.out).keep t5); clear t5))
      clear b5 b6 b7 b8 P3 R3 T4
      have HK := hid (fun w => key32 w a.k)
      unfold kv at HK
      have HRk : Hid (∀ w', Touch [] w5 w' → Calls Try.prog 60 #[.agg #[.int .i64 c.t, .int .i64 c.n, .int .i64 c.s, .int .i64 c.e, .int .i64 c.f, .int .i64 c.b, .int .i64 c.d], .slice a1 n1 c1, .agg #[.int .u16 a.k.1, .string a.k.2, .int .i64 a.o.1, .int .i64 a.o.2.1, .int .i64 a.o.2.2.1, .int .i64 a.o.2.2.2, .int .i64 n]] w' fun e w'' => ∃ a2 n2 c2 v2, e = .returned (.tuple #[.slice a2 n2 c2, .bool kb, v2]) ∧ RN 62 w'' (.slice a2 n2 c2) (kpX c now n xs a.k a.o) ∧ RT 57 w'' v2 gs ∧ Touch [] w5 w'') := hid (fun w' t => (rkeep60 w' c (.slice a1 n1 c1) xs (a.k, a.o, n) HGd.out.1.oc HGd.out.1.ln (P5.out.rn.keep t) HGd.out.2.1 HRT.out).mono (by
        rintro e w'' ⟨v1, v2, rfl, k1, k2, k3⟩
        simp only at k1 k2
        rw [← HKC.out] at k1 k2
        rw [← HXs.out] at k1
        rw [← HGs.out] at k2
        obtain ⟨a2, c2, rfl, k4, k5⟩ := k1
        rw [HKC.out]
        exact ⟨a2, _, c2, v2, rfl, ⟨a2, c2, rfl, k4, k5⟩, k2, t.trans' k3⟩))
      have sA0 : ∀ w', Touch [] w5 w' → w'.cell? ⟨w.heap.size, 0, none⟩ = some (.int .i64 c.t) := fun w' s => (P5.out.bx.keep0 s).cs.a0
      have sA1 : ∀ w', Touch [] w5 w' → w'.cell? ⟨w.heap.size, 1, none⟩ = some (.int .i64 c.n) := fun w' s => (P5.out.bx.keep0 s).cs.a1
      have sA2 : ∀ w', Touch [] w5 w' → w'.cell? ⟨w.heap.size, 2, none⟩ = some (.int .i64 c.s) := fun w' s => (P5.out.bx.keep0 s).cs.a2
      have sA3 : ∀ w', Touch [] w5 w' → w'.cell? ⟨w.heap.size, 3, none⟩ = some (.int .i64 c.e) := fun w' s => (P5.out.bx.keep0 s).cs.a3
      have sA4 : ∀ w', Touch [] w5 w' → w'.cell? ⟨w.heap.size, 4, none⟩ = some (.int .i64 c.f) := fun w' s => (P5.out.bx.keep0 s).cs.a4
      have sA5 : ∀ w', Touch [] w5 w' → w'.cell? ⟨w.heap.size, 5, none⟩ = some (.int .i64 c.b) := fun w' s => (P5.out.bx.keep0 s).cs.a5
      have sA6 : ∀ w', Touch [] w5 w' → w'.cell? ⟨w.heap.size, 6, none⟩ = some (.int .i64 c.d) := fun w' s => (P5.out.bx.keep0 s).cs.a6
      have sA7 : ∀ w', Touch [] w5 w' → w'.cell? ⟨w.heap.size, 7, none⟩ = some (.slice a1 n1 c1) := fun w' s => (P5.out.bx.keep0 s).cs.a7
      have sA8 : ∀ w', Touch [] w5 w' → w'.cell? ⟨w.heap.size, 8, none⟩ = some (.int .i64 now) := fun w' s => (P5.out.bx.keep0 s).cs.a8
      have sB3 : ∀ w', Touch [] w5 w' → w'.cell? ⟨w.heap.size + 1, 3, none⟩ = some (.int .u16 a.k.1) := fun w' s => (P5.out.bx.keep0 s).cs.b3
      have sB4 : ∀ w', Touch [] w5 w' → w'.cell? ⟨w.heap.size + 1, 4, none⟩ = some (.string a.k.2) := fun w' s => (P5.out.bx.keep0 s).cs.b4
      have sB5 : ∀ w', Touch [] w5 w' → w'.cell? ⟨w.heap.size + 1, 5, none⟩ = some (.int .i64 a.o.1) := fun w' s => (P5.out.bx.keep0 s).cs.b5
      have sB6 : ∀ w', Touch [] w5 w' → w'.cell? ⟨w.heap.size + 1, 6, none⟩ = some (.int .i64 a.o.2.1) := fun w' s => (P5.out.bx.keep0 s).cs.b6
      have sB7 : ∀ w', Touch [] w5 w' → w'.cell? ⟨w.heap.size + 1, 7, none⟩ = some (.int .i64 a.o.2.2.1) := fun w' s => (P5.out.bx.keep0 s).cs.b7
      have sB8 : ∀ w', Touch [] w5 w' → w'.cell? ⟨w.heap.size + 1, 8, none⟩ = some (.int .i64 a.o.2.2.2) := fun w' s => (P5.out.bx.keep0 s).cs.b8
      have s0 : Touch [] w5 w5.drew := (Touch.refl _ _).drew
      refine wp_region_H (S := fun w' => Touch [] w5 w') (by kernel_rfl) ?_
      refine wpH_take (i := 0) (v := (.pointer (some ⟨w.heap.size, 0, none⟩))) (some 60) rfl rfl (by kernel_rfl) (by kernel_rfl) (by kernel_rfl) (fun _ _ _ h => h) (Or.inl ⟨by rfl, fun w' hS => (by go_simp)⟩) s0 ?_
      try simp only [Go.Act.put, List.setIfInBounds_toArray, List.set_cons_zero, List.set_cons_succ]
      refine wpH_take (i := 1) (v := (.agg #[.int .i64 c.t, .int .i64 c.n, .int .i64 c.s, .int .i64 c.e, .int .i64 c.f, .int .i64 c.b, .int .i64 c.d])) (some 61) rfl rfl (by kernel_rfl) (by kernel_rfl) (by kernel_rfl) (fun _ _ _ h => h) (Or.inl ⟨by rfl, fun w' hS => (by have z0 := sA0 _ hS; have z1 := sA1 _ hS; have z2 := sA2 _ hS; have z3 := sA3 _ hS; have z4 := sA4 _ hS; have z5 := sA5 _ hS; have z6 := sA6 _ hS; go_simp)⟩) s0 ?_
      try simp only [Go.Act.put, List.setIfInBounds_toArray, List.set_cons_zero, List.set_cons_succ]
      refine wpH_take (i := 2) (v := (.pointer (some ⟨w.heap.size, 7, none⟩))) (some 62) rfl rfl (by kernel_rfl) (by kernel_rfl) (by kernel_rfl) (fun _ _ _ h => h) (Or.inl ⟨by rfl, fun w' hS => (by go_simp)⟩) s0 ?_
      try simp only [Go.Act.put, List.setIfInBounds_toArray, List.set_cons_zero, List.set_cons_succ]
      refine wpH_take (i := 3) (v := (.slice a1 n1 c1)) (some 63) rfl rfl (by kernel_rfl) (by kernel_rfl) (by kernel_rfl) (fun _ _ _ h => h) (Or.inl ⟨by rfl, fun w' hS => (by have z0 := sA7 _ hS; go_simp)⟩) s0 ?_
      try simp only [Go.Act.put, List.setIfInBounds_toArray, List.set_cons_zero, List.set_cons_succ]
      refine wpH_take (i := 4) (v := (.pointer (some ⟨w.heap.size + 1, 3, none⟩))) (some 64) rfl rfl (by kernel_rfl) (by kernel_rfl) (by kernel_rfl) (fun _ _ _ h => h) (Or.inl ⟨by rfl, fun w' hS => (by go_simp)⟩) s0 ?_
      try simp only [Go.Act.put, List.setIfInBounds_toArray, List.set_cons_zero, List.set_cons_succ]
      refine wpH_take (i := 5) (v := (.agg #[.int .u16 a.k.1, .string a.k.2])) (some 65) rfl rfl (by kernel_rfl) (by kernel_rfl) (by kernel_rfl) (fun _ _ _ h => h) (Or.inl ⟨by rfl, fun w' hS => (by have z0 := sB3 _ hS; have z1 := sB4 _ hS; go_simp)⟩) s0 ?_
      try simp only [Go.Act.put, List.setIfInBounds_toArray, List.set_cons_zero, List.set_cons_succ]
      refine wpH_take (i := 7) (v := (.pointer (some ⟨w.heap.size + 1, 5, none⟩))) (some 67) rfl rfl (by kernel_rfl) (by kernel_rfl) (by kernel_rfl) (fun _ _ _ h => h) (Or.inl ⟨by rfl, fun w' hS => (by go_simp)⟩) s0 ?_
      try simp only [Go.Act.put, List.setIfInBounds_toArray, List.set_cons_zero, List.set_cons_succ]
      refine wpH_take (i := 8) (v := (.agg #[.int .i64 a.o.1, .int .i64 a.o.2.1, .int .i64 a.o.2.2.1, .int .i64 a.o.2.2.2])) (some 68) rfl rfl (by kernel_rfl) (by kernel_rfl) (by kernel_rfl) (fun _ _ _ h => h) (Or.inl ⟨by rfl, fun w' hS => (by have z0 := sB5 _ hS; have z1 := sB6 _ hS; have z2 := sB7 _ hS; have z3 := sB8 _ hS; go_simp)⟩) s0 ?_
      try simp only [Go.Act.put, List.setIfInBounds_toArray, List.set_cons_zero, List.set_cons_succ]
      refine wpH_take (i := 10) (v := (.int .i64 n)) (some 70) rfl rfl (by kernel_rfl) (by kernel_rfl) (by kernel_rfl) (fun _ _ _ h => h) (Or.inl ⟨by rfl, fun w' hS => (by go_simp)⟩) s0 ?_
      try simp only [Go.Act.put, List.setIfInBounds_toArray, List.set_cons_zero, List.set_cons_succ]
      refine wpH_call (i := 6) (o := { dst := some 66, op := Op.call { callee := Callee.value (Operand.func 32), args := #[Operand.tmp 65], argTypes := #[39] }, type := 57, pos := _, after := #[{ on := 5, ground := Ground.data }], guard := none }) (by kernel_rfl) rfl (fun K' hK => ?_)
      rw [if_pos (by rfl)]
      go_simp
      refine (HK.out _).mono ?_
      rintro e w4b ⟨rfl, t4⟩
      have s1 : Touch [] w5 w4b := s0.trans' t4
      clear t4
      refine hK.out _ _ s1 ?_
      clear hK
      try simp only [Go.Act.put, List.setIfInBounds_toArray, List.set_cons_zero, List.set_cons_succ]
      refine wpH_call (i := 9) (o := { dst := some 69, op := Op.call { callee := Callee.value (Operand.func 42), args := #[Operand.tmp 68], argTypes := #[43] }, type := 60, pos := _, after := #[{ on := 8, ground := Ground.data }, { on := 6, ground := Ground.chain }], guard := none }) (by kernel_rfl) rfl (fun K' hK => ?_)
      rw [if_pos (by rfl)]
      go_simp
      refine (HO.out _).mono ?_
      rintro e w5b ⟨rfl, t5⟩
      have s2 : Touch [] w5 w5b := s1.trans' t5
      clear t5
      refine hK.out _ _ s2 ?_
      clear hK
      try simp only [Go.Act.put, List.setIfInBounds_toArray, List.set_cons_zero, List.set_cons_succ]
      refine wpH_take (i := 11) (v := (.agg #[.int .u16 a.k.1, .string a.k.2, .int .i64 a.o.1, .int .i64 a.o.2.1, .int .i64 a.o.2.2.1, .int .i64 a.o.2.2.2, .int .i64 n])) (some 71) rfl rfl (by kernel_rfl) (by kernel_rfl) (by kernel_rfl) (fun _ _ _ h => h) (Or.inl ⟨by rfl, fun w' hS => (by go_simp)⟩) s2 ?_
      try simp only [Go.Act.put, List.setIfInBounds_toArray, List.set_cons_zero, List.set_cons_succ]
      refine wpH_call (i := 12) (o := { dst := some 72, op := Op.call { callee := Callee.value (Operand.func 60), args := #[Operand.tmp 61, Operand.tmp 63, Operand.tmp 71], argTypes := #[31, 34, 62] }, type := 134, pos := _, after := #[{ on := 1, ground := Ground.data }, { on := 3, ground := Ground.data }, { on := 11, ground := Ground.data }, { on := 9, ground := Ground.chain }], guard := none }) (by kernel_rfl) rfl (fun K' hK => ?_)
      rw [if_pos (by rfl)]
      go_simp
      refine (HRk.out _ s2).mono ?_
      rintro e w6 ⟨a2, n2, c2, v2, rfl, r6, g6, s3⟩
      have R6 := hid r6
      have G6 := hid g6
      clear r6 g6
      refine hK.out _ _ s3 ?_
      clear hK
      try simp only [Go.Act.put, List.setIfInBounds_toArray, List.set_cons_zero, List.set_cons_succ]
      refine wpH_take (i := 13) (v := (.tuple #[(.slice a2 n2 c2), (.bool kb), (v2)])) (some 59) rfl rfl (by kernel_rfl) (by kernel_rfl) (by kernel_rfl) (fun _ _ _ h => h) (Or.inl ⟨by rfl, fun w' hS => (by go_simp)⟩) s3 ?_
      try simp only [Go.Act.put, List.setIfInBounds_toArray, List.set_cons_zero, List.set_cons_succ]
      refine wpH_take (i := 14) (v := (.slice a2 n2 c2)) (some 73) rfl rfl (by kernel_rfl) (by kernel_rfl) (by kernel_rfl) (fun _ _ _ h => h) (Or.inl ⟨by rfl, fun w' hS => (by go_simp)⟩) s3 ?_
      try simp only [Go.Act.put, List.setIfInBounds_toArray, List.set_cons_zero, List.set_cons_succ]
      refine wpH_take (i := 15) (v := (.bool kb)) (some 74) rfl rfl (by kernel_rfl) (by kernel_rfl) (by kernel_rfl) (fun _ _ _ h => h) (Or.inl ⟨by rfl, fun w' hS => (by go_simp)⟩) s3 ?_
      try simp only [Go.Act.put, List.setIfInBounds_toArray, List.set_cons_zero, List.set_cons_succ]
      refine wpH_take (i := 16) (v := (v2)) (some 75) rfl rfl (by kernel_rfl) (by kernel_rfl) (by kernel_rfl) (fun _ _ _ h => h) (Or.inl ⟨by rfl, fun w' hS => (by go_simp)⟩) s3 ?_
      try simp only [Go.Act.put, List.setIfInBounds_toArray, List.set_cons_zero, List.set_cons_succ]
      refine wpH_take (i := 17) (v := (.slice a2 n2 c2)) (some 13) rfl rfl (by kernel_rfl) (by kernel_rfl) (by kernel_rfl) (fun _ _ _ h => h) (Or.inl ⟨by rfl, fun w' hS => (by go_simp)⟩) s3 ?_
      try simp only [Go.Act.put, List.setIfInBounds_toArray, List.set_cons_zero, List.set_cons_succ]
      refine wpH_take (i := 18) (v := (.bool kb)) (some 14) rfl rfl (by kernel_rfl) (by kernel_rfl) (by kernel_rfl) (fun _ _ _ h => h) (Or.inl ⟨by rfl, fun w' hS => (by go_simp)⟩) s3 ?_
      try simp only [Go.Act.put, List.setIfInBounds_toArray, List.set_cons_zero, List.set_cons_succ]
      refine wpH_take (i := 19) (v := (v2)) (some 15) rfl rfl (by kernel_rfl) (by kernel_rfl) (by kernel_rfl) (fun _ _ _ h => h) (Or.inl ⟨by rfl, fun w' hS => (by go_simp)⟩) s3 ?_
      try simp only [Go.Act.put, List.setIfInBounds_toArray, List.set_cons_zero, List.set_cons_succ]
      refine wpAnyH_done (by kernel_rfl) ?_ _
      have P6 : Hid (PlS w m F c a (.slice a1 n1 c1) now n xs (kpX c now n xs a.k a.o) w6) := hid (by have h := P5.out.keep0 s3; rw [HNn.out] at h; exact h)
      have T6 := hid (R5.out.keep s3)
      clear sA0 sA1 sA2 sA3 sA4 sA5 sA6 sA7 sA8 sB3 sB4 sB5 sB6 sB7 sB8 s0 s1 s2 s3
      have a7 := P6.out.bx.cs.a7
      have a8 := P6.out.bx.cs.a8
      have fA := P6.out.bx.cs.fA
      obtain ⟨W9, hW9⟩ : ∃ W9, W9 = (w6.setCell ⟨w.heap.size, 7, none⟩ (.slice a2 n2 c2)).setCell ⟨w.heap.size, 8, none⟩ (.int .i64 n) := ⟨_, rfl⟩
      have P9 : Hid (PlS w m F c a (.slice a2 n2 c2) n n (kpX c now n xs a.k a.o) (kpX c now n xs a.k a.o) W9) := hid (by rw [hW9]; exact (P6.out.set7 HF.out R6.out).set8 HF.out n)
      have T9 : Touch [w.heap.size] w6 W9 := by rw [hW9]; exact ((Touch.refl _ _).setCell (Or.inl (by simp)) _).setCell (Or.inl (by simp)) _
      have HKy : Hid (Calls Try.prog 37 #[.slice a3 gn c3, v2] W9.drew fun e w' => e = .returned (.bool true) ∧ Touch [] W9.drew w') := hid (keys37 W9.drew _ v2 gs (by rw [HGs.out]; have := goneL_len c.e xs a.k; split; omega; simp) ((T6.out.apart P6.out.bx.hA (by decide) T9).keep (Touch.refl _ _).drew) ((G6.out.apart P6.out.bx.hA (by decide) T9).keep (Touch.refl _ _).drew))
      clear T9
      go_upto_region 10 with fail
      rw [← hW9]
      clear hW9 a7 a8 fA
      have S0 := P9.out.bx.sr
      have cA0 : ∀ w', Sr W9 (w.heap.size + 1 + 1) 36 9 w' → w'.cell? ⟨w.heap.size, 0, none⟩ = some (.int .i64 c.t) := fun w' s => (P9.out.bx.under s).cs.a0
      have cA1 : ∀ w', Sr W9 (w.heap.size + 1 + 1) 36 9 w' → w'.cell? ⟨w.heap.size, 1, none⟩ = some (.int .i64 c.n) := fun w' s => (P9.out.bx.under s).cs.a1
      have cA2 : ∀ w', Sr W9 (w.heap.size + 1 + 1) 36 9 w' → w'.cell? ⟨w.heap.size, 2, none⟩ = some (.int .i64 c.s) := fun w' s => (P9.out.bx.under s).cs.a2
      have cA3 : ∀ w', Sr W9 (w.heap.size + 1 + 1) 36 9 w' → w'.cell? ⟨w.heap.size, 3, none⟩ = some (.int .i64 c.e) := fun w' s => (P9.out.bx.under s).cs.a3
      have cA4 : ∀ w', Sr W9 (w.heap.size + 1 + 1) 36 9 w' → w'.cell? ⟨w.heap.size, 4, none⟩ = some (.int .i64 c.f) := fun w' s => (P9.out.bx.under s).cs.a4
      have cA5 : ∀ w', Sr W9 (w.heap.size + 1 + 1) 36 9 w' → w'.cell? ⟨w.heap.size, 5, none⟩ = some (.int .i64 c.b) := fun w' s => (P9.out.bx.under s).cs.a5
      have cA6 : ∀ w', Sr W9 (w.heap.size + 1 + 1) 36 9 w' → w'.cell? ⟨w.heap.size, 6, none⟩ = some (.int .i64 c.d) := fun w' s => (P9.out.bx.under s).cs.a6
      have cA7 : ∀ w', Sr W9 (w.heap.size + 1 + 1) 36 9 w' → w'.cell? ⟨w.heap.size, 7, none⟩ = some (.slice a2 n2 c2) := fun w' s => (P9.out.bx.under s).cs.a7
      have cA8 : ∀ w', Sr W9 (w.heap.size + 1 + 1) 36 9 w' → w'.cell? ⟨w.heap.size, 8, none⟩ = some (.int .i64 n) := fun w' s => (P9.out.bx.under s).cs.a8
      have s0 := S0.drew
      refine wp_region_H (S := fun w' => Sr W9 (w.heap.size + 1 + 1) 36 9 w') (by kernel_rfl) ?_
      refine wpH_take (i := 0) (v := (.agg #[.int .i64 c.t, .int .i64 c.n, .int .i64 c.s, .int .i64 c.e, .int .i64 c.f, .int .i64 c.b, .int .i64 c.d, .slice a2 n2 c2, .int .i64 n])) (some 80) rfl rfl (by kernel_rfl) (by kernel_rfl) (by kernel_rfl) (fun _ _ _ h => h) (Or.inl ⟨by rfl, fun w' hS => (by have z0 := cA0 _ hS; have z1 := cA1 _ hS; have z2 := cA2 _ hS; have z3 := cA3 _ hS; have z4 := cA4 _ hS; have z5 := cA5 _ hS; have z6 := cA6 _ hS; have z7 := cA7 _ hS; have z8 := cA8 _ hS; go_simp)⟩) s0 ?_
      try simp only [Go.Act.put, List.setIfInBounds_toArray, List.set_cons_zero, List.set_cons_succ]
      refine wpH_take (i := 1) (v := (.int .i64 0)) (some 81) rfl rfl (by kernel_rfl) (by kernel_rfl) (by kernel_rfl) (fun _ _ _ h => h) (Or.inl ⟨by rfl, fun w' hS => (by go_simp)⟩) s0 ?_
      try simp only [Go.Act.put, List.setIfInBounds_toArray, List.set_cons_zero, List.set_cons_succ]
      refine wpH_take (i := 2) (v := (.bool true)) (some 82) rfl rfl (by kernel_rfl) (by kernel_rfl) (by kernel_rfl) (fun _ _ _ h => h) (Or.inl ⟨by rfl, fun w' hS => (by go_simp)⟩) s0 ?_
      try simp only [Go.Act.put, List.setIfInBounds_toArray, List.set_cons_zero, List.set_cons_succ]
      refine wpH_take (i := 3) (v := (.bool true)) (some 83) rfl rfl (by kernel_rfl) (by kernel_rfl) (by kernel_rfl) (fun _ _ _ h => h) (Or.inl ⟨by rfl, fun w' hS => (by go_simp)⟩) s0 ?_
      try simp only [Go.Act.put, List.setIfInBounds_toArray, List.set_cons_zero, List.set_cons_succ]
      refine wpH_take (i := 4) (v := (.bool kb)) (some 84) rfl rfl (by kernel_rfl) (by kernel_rfl) (by kernel_rfl) (fun _ _ _ h => h) (Or.inl ⟨by rfl, fun w' hS => (by go_simp)⟩) s0 ?_
      try simp only [Go.Act.put, List.setIfInBounds_toArray, List.set_cons_zero, List.set_cons_succ]
      refine wpH_take (i := 5) (v := (.bool kb)) (some 85) rfl rfl (by kernel_rfl) (by kernel_rfl) (by kernel_rfl) (fun _ _ _ h => h) (Or.inl ⟨by rfl, fun w' hS => (by go_simp)⟩) s0 ?_
      try simp only [Go.Act.put, List.setIfInBounds_toArray, List.set_cons_zero, List.set_cons_succ]
      refine wpH_take (i := 6) (v := (.bool true)) (some 86) rfl rfl (by kernel_rfl) (by kernel_rfl) (by kernel_rfl) (fun _ _ _ h => h) (Or.inl ⟨by rfl, fun w' hS => (by go_simp; try (cases kb <;> rfl))⟩) s0 ?_
      try simp only [Go.Act.put, List.setIfInBounds_toArray, List.set_cons_zero, List.set_cons_succ]
      refine wpH_take (i := 7) (v := (.bool true)) (some 87) rfl rfl (by kernel_rfl) (by kernel_rfl) (by kernel_rfl) (fun _ _ _ h => h) (Or.inl ⟨by rfl, fun w' hS => (by go_simp)⟩) s0 ?_
      try simp only [Go.Act.put, List.setIfInBounds_toArray, List.set_cons_zero, List.set_cons_succ]
      refine wpH_take (i := 8) (v := (.bool true)) (some 88) rfl rfl (by kernel_rfl) (by kernel_rfl) (by kernel_rfl) (fun _ _ _ h => h) (Or.inl ⟨by rfl, fun w' hS => (by go_simp)⟩) s0 ?_
      try simp only [Go.Act.put, List.setIfInBounds_toArray, List.set_cons_zero, List.set_cons_succ]
      refine wpH_take (i := 9) (v := (.slice a3 gn c3)) (some 89) rfl rfl (by kernel_rfl) (by kernel_rfl) (by kernel_rfl) (fun _ _ _ h => h) (Or.inl ⟨by rfl, fun w' hS => (by go_simp)⟩) s0 ?_
      try simp only [Go.Act.put, List.setIfInBounds_toArray, List.set_cons_zero, List.set_cons_succ]
      refine wpH_take (i := 10) (v := (v2)) (some 90) rfl rfl (by kernel_rfl) (by kernel_rfl) (by kernel_rfl) (fun _ _ _ h => h) (Or.inl ⟨by rfl, fun w' hS => (by go_simp)⟩) s0 ?_
      try simp only [Go.Act.put, List.setIfInBounds_toArray, List.set_cons_zero, List.set_cons_succ]
      refine wpH_call (i := 11) (o := { dst := some 91, op := Op.call { callee := Callee.value (Operand.func 37), args := #[Operand.tmp 89, Operand.tmp 90], argTypes := #[69, 100] }, type := 4, pos := _, after := #[{ on := 9, ground := Ground.data }, { on := 10, ground := Ground.data }, { on := 8, ground := Ground.chain }, { on := 8, ground := Ground.guard }], guard := some (8, true) }) (by kernel_rfl) rfl (fun K' hK => ?_)
      rw [if_pos (by rfl)]
      go_simp
      refine HKy.out.mono ?_
      rintro e w10 ⟨rfl, t10⟩
      have s1 := s0.go t10
      have TO : Hid (Touch [] W9 w10) := hid ((Touch.refl _ _).drew.trans' t10)
      clear t10
      obtain ⟨q0, q1, q2, q3, q4, q5, q6, q7, q8⟩ : w10.cell? ⟨w.heap.size + 1 + 1, 0, none⟩ = some (gc w10 (w.heap.size + 1 + 1) 0) ∧ w10.cell? ⟨w.heap.size + 1 + 1, 1, none⟩ = some (gc w10 (w.heap.size + 1 + 1) 1) ∧ w10.cell? ⟨w.heap.size + 1 + 1, 2, none⟩ = some (gc w10 (w.heap.size + 1 + 1) 2) ∧ w10.cell? ⟨w.heap.size + 1 + 1, 3, none⟩ = some (gc w10 (w.heap.size + 1 + 1) 3) ∧ w10.cell? ⟨w.heap.size + 1 + 1, 4, none⟩ = some (gc w10 (w.heap.size + 1 + 1) 4) ∧ w10.cell? ⟨w.heap.size + 1 + 1, 5, none⟩ = some (gc w10 (w.heap.size + 1 + 1) 5) ∧ w10.cell? ⟨w.heap.size + 1 + 1, 6, none⟩ = some (gc w10 (w.heap.size + 1 + 1) 6) ∧ w10.cell? ⟨w.heap.size + 1 + 1, 7, none⟩ = some (gc w10 (w.heap.size + 1 + 1) 7) ∧ w10.cell? ⟨w.heap.size + 1 + 1, 8, none⟩ = some (gc w10 (w.heap.size + 1 + 1) 8) := ⟨s1.cell 0 (by omega), s1.cell 1 (by omega), s1.cell 2 (by omega), s1.cell 3 (by omega), s1.cell 4 (by omega), s1.cell 5 (by omega), s1.cell 6 (by omega), s1.cell 7 (by omega), s1.cell 8 (by omega)⟩
      have qf := fun i => s1.frozen i
      refine hK.out _ _ s1 ?_
      clear hK
      try simp only [Go.Act.put, List.setIfInBounds_toArray, List.set_cons_zero, List.set_cons_succ]
      refine wpH_take (i := 12) (v := (.bool true)) (some 92) rfl rfl (by kernel_rfl) (by kernel_rfl) (by kernel_rfl) (fun _ _ _ h => h) (Or.inl ⟨by rfl, fun w' hS => (by go_simp)⟩) s1 ?_
      try simp only [Go.Act.put, List.setIfInBounds_toArray, List.set_cons_zero, List.set_cons_succ]
      refine wpH_call (i := 13) (o := { dst := none, op := Op.store 36 (Operand.tmp 6) (Operand.tmp 80), type := 0, pos := _, after := #[{ on := 0, ground := Ground.data }, { on := 11, ground := Ground.chain }, { on := 0, ground := Ground.phase }, { on := 1, ground := Ground.textOnly Departure.lateStores }, { on := 2, ground := Ground.textOnly Departure.lateStores }, { on := 3, ground := Ground.textOnly Departure.lateStores }, { on := 4, ground := Ground.textOnly Departure.lateStores }, { on := 5, ground := Ground.textOnly Departure.lateStores }, { on := 6, ground := Ground.textOnly Departure.lateStores }, { on := 7, ground := Ground.textOnly Departure.lateStores }, { on := 8, ground := Ground.textOnly Departure.lateStores }, { on := 9, ground := Ground.textOnly Departure.lateStores }, { on := 10, ground := Ground.textOnly Departure.lateStores }, { on := 11, ground := Ground.textOnly Departure.lateStoresUnsure }, { on := 12, ground := Ground.textOnly Departure.lateStores }], guard := none }) (by kernel_rfl) rfl (fun K' hK => ?_)
      rw [if_pos (by rfl)]
      go_simp
      refine hK.out _ _ (Sr.s9 s1 _ _ _ _ _ _ _ _ _) ?_
      clear hK
      try simp only [Go.Act.put, List.setIfInBounds_toArray, List.set_cons_zero, List.set_cons_succ]
      refine wpH_take (i := 14) (v := (.bool true)) (some 7) rfl rfl (by kernel_rfl) (by kernel_rfl) (by kernel_rfl) (fun _ _ _ h => h) (Or.inl ⟨by rfl, fun w' hS => (by go_simp)⟩) (Sr.s9 s1 _ _ _ _ _ _ _ _ _) ?_
      try simp only [Go.Act.put, List.setIfInBounds_toArray, List.set_cons_zero, List.set_cons_succ]
      refine wpAnyH_done (by kernel_rfl) ?_ _
      have S1 := hid s1
      clear cA0 cA1 cA2 cA3 cA4 cA5 cA6 cA7 cA8 s0 s1 qf S0
      go_wp2
      refine bodyPost_ret (v := .tuple #[.agg #[.int .i64 c.t, .int .i64 c.n, .int .i64 c.s, .int .i64 c.e, .int .i64 c.f, .int .i64 c.b, .int .i64 c.d, .slice a2 n2 c2, .int .i64 n], .bool true]) (by simp [results, Try.results38, go_sem, q0, q1, q2, q3, q4, q5, q6, q7, q8]) rfl ?_
      exact ⟨a2, n2, c2, n, _, rfl, (P9.out.keep0 TO.out).fin HF.out (tset9 _ _ _ _ _ _ _ _ _ _ _)⟩
end Go.Proofs.Ytopepalpmkeffaa
/- A region that draws its order, within a round of a range over a function: it may be walked as one outside of every round. No conditions. -/
namespace Go.Proofs.Ytopepalpmkeffaa
set_option linter.unusedVariables false
section
variable {P : Program} {ops : Array Oper} {Q : Exit → Act → World → Prop} {md : Region.Mode} {l : Nat}
theorem rows_round {row : String} {args : Array Value} {w : World} {R : Value → World → Prop} (h : Rows P row args w R) : RowsIn (Fence.wide.inRound l) 0 P row args w R := fun c cs _ => by
  obtain ⟨v, w', r, s⟩ := h c cs
  exact ⟨v, w', r, (stepsIn_wide).2 s⟩
theorem upon_round {o : Oper} {a : Act} {K : Act → World → Prop} {r : Result Next} (h : o.upon P a K Q r) : o.uponIn (Fence.wide.inRound l) 0 P a K Q r := by
  cases r with
  | ok x w' =>
    cases x with
    | value v => exact h
    | skip => exact h
    | defer d => exact h
    | enter f args => exact ⟨fun e => (by cases e), CallsIn.inRound l (callsIn_wide.2 h)⟩
    | row r args => exact ⟨fun e => (by cases e), rows_round h⟩
    | _ => exact h.elim
  | halt x w' =>
    cases x <;> first | exact h | exact h.elim
theorem op_round {i : Nat} {K : Act → World → Prop} {a : Act} {w : World} (hL : ¬ LetsOut Q) (hd : ∀ (o : Oper) (c : Call), ops[i]? = some o → o.op ≠ Op.defer c) (h : wpOp P ops Q i K a w) : wpOpIn (Fence.wide.inRound l) 0 P ops Q i K a w := by
  unfold wpOp at h
  unfold wpOpIn
  cases ho : ops[i]? with
  | none => rw [ho] at h; exact h
  | some o =>
    rw [ho] at h
    simp only at h ⊢
    by_cases hw : Region.wanted o (yielded ops a.tmps) = true
    · rw [if_pos hw] at h ⊢
      rcases h with h | h
      · refine ⟨fun _ _ => trivial, ?_⟩
        rw [Oper.semAt_plain (Fence.wide.inRound l) _ _ (fun c => hd o c ho)]
        exact upon_round h
      · exact absurd h.2 hL
    · rw [if_neg hw] at h ⊢
      exact ⟨fun _ _ => trivial, h⟩
theorem any_round (hL : ¬ LetsOut Q) (hd : ∀ (i : Nat) (o : Oper) (c : Call), ops[i]? = some o → o.op ≠ Op.defer c) : ∀ (fuel : Nat) (listed : Array Bool) (a : Act) (w : World), wpAny P md ops Q fuel listed a w → wpAnyIn (Fence.wide.inRound l) 0 P md ops Q fuel listed a w
  | 0, _, _, _, h => h
  | fuel + 1, _, _, _, h => ⟨h.1, fun i hi => op_round hL (hd i) (wpOp_mono (fun a' w' h' => any_round hL hd fuel _ a' w' h') (h.2 i hi))⟩
/-- No operation of a list is a defer. -/
theorem no_defer (h : ops.toList.all (fun o => match o.op with | Op.defer _ => false | _ => true) = true) : ∀ (i : Nat) (o : Oper) (c : Call), ops[i]? = some o → o.op ≠ Op.defer c := fun i o c ho e => by
  have hm : o ∈ ops.toList := by
    rw [← Array.getElem?_toList] at ho
    exact List.mem_of_getElem? ho
  have := List.all_eq_true.1 h o hm
  rw [e] at this
  cases this
theorem region_round {id : Nat} {a : Act} {w : World} {S : World → Prop} (hm : P.follows .mixedOrders = true) (hL : ¬ LetsOut Q) (hd : ops.toList.all (fun o => match o.op with | Op.defer _ => false | _ => true) = true)
    (h : wpAnyH P .any ops Q S ops.size (Array.replicate ops.size false) a w.drew) : (Code.region id ops true).wpIn (Fence.wide.inRound l) 0 P Q a w :=
  wpIn_region_any hm (any_round hL (no_defer hd) _ _ _ _ (wpAny_of_held _ _ _ _ h))
end
end Go.Proofs.Ytopepalpmkeffaa
/- The contract of old: the keys of the entries that are old at the memo's time; no conditions. -/
namespace Go.Proofs.Ytopepalpmkeffaa
open Go.RowKit Go.Sort Go.Maps Go.ChangeMaps Go.WideMaps Go.Shelf
set_option linter.unusedVariables false
set_option linter.unusedSimpArgs false
attribute [local go_sem] Oper.semAt_some
def OlI (w : World) (c : Cf) (now : Int) (p1 p3 m : Nat) (xs : List En) (X : List Nat) (pre : List K) (W : World) : Prop :=
  (∃ v, W.heap[p3]? = some (.cells #[v] 69 (0, 0)) ∧ W.ownsRow w.heap.size 39 2 v (swG c now (xs.take pre.length)).length (cellsK (swG c now (xs.take pre.length))) ∧ ∀ b, v.ownBlock = some b → ¬ b ∈ X) ∧ W.heap[p1]? = some (.cells #[PT m] 26 (0, 0)) ∧ (¬ p1 ∈ X ∧ ¬ p3 ∈ X ∧ w.heap.size ≤ p3) ∧ (∀ k ∈ X, w.heap.size ≤ k) ∧ Touch [] w W
theorem OlI.step {w : World} {c : Cf} {now : Int} {p1 p3 m : Nat} {xs : List En} {X : List Nat} {pre : List K} {W W' : World} (h : OlI w c now p1 p3 m xs X pre W) (ht : Touch X W W') : OlI w c now p1 p3 m xs X pre W' := by
  obtain ⟨⟨v, h1, h2, h3⟩, h4, h5, h6, h7⟩ := h
  exact ⟨⟨v, ht.keep h1 h5.2.1, own_touch h2 ht h3, h3⟩, ht.keep h4 h5.1, h5, h6, h7.trans ht (fun i hi => Or.inr (h6 i hi))⟩
theorem OlI.same {w : World} {c : Cf} {now : Int} {p1 p3 m : Nat} {xs : List En} {X : List Nat} {pre : List K} {W : World} (h : OlI w c now p1 p3 m xs X pre W) (hl : pre.length < xs.length) (ho : isOld c now xs[pre.length] = false) (k : K) : OlI w c now p1 p3 m xs X (pre ++ [k]) W := by
  obtain ⟨⟨v, h1, h2, h3⟩, h4⟩ := h
  refine ⟨⟨v, h1, ?_, h3⟩, h4⟩
  rw [List.length_append, List.length_singleton, (sw_new hl ho).2]
  exact h2
theorem OlI.push {w : World} {c : Cf} {now : Int} {p1 p3 m : Nat} {xs : List En} {X : List Nat} {pre : List K} {W W8 w7 : World} {v v' : Value} {n : Nat} (h : OlI w c now p1 p3 m xs X pre W) (hX : ∀ k ∈ X, k < W.heap.size) (t8 : Touch [] W W8) (hv : W.heap[p3]? = some (.cells #[v] 69 (0, 0))) (hn : n = (swG c now (xs.take pre.length)).length) (hl : pre.length < xs.length) (hold : isOld c now xs[pre.length] = true)
    (ho : w7.ownsRow w.heap.size 39 2 v' (n + 1) (cellsK (swG c now (xs.take pre.length)) ++ [.int .u16 xs[pre.length].1.1, .string xs[pre.length].1.2])) (hg : W8.grownBy w7 v.ownBlock) (hat : v'.ownBlock = v.ownBlock ∨ v'.ownBlock = some W8.heap.size) (k : K) :
    w7.heap[p3]? = some (.cells #[v] 69 (0, 0)) ∧ (∀ q ∈ X, (w7.setCell ⟨p3, 0, none⟩ v').heap[q]? = W.heap[q]?) ∧ OlI w c now p1 p3 m xs X (pre ++ [k]) (w7.setCell ⟨p3, 0, none⟩ v') := by
  obtain ⟨⟨v0, h1, h2, h3⟩, h4, h5, h6, h7⟩ := h
  have ev : v0 = v := by
    rw [h1] at hv
    simpa using hv
  subst ev
  have nb : ∀ b, v0.ownBlock = some b → b ≠ p3 ∧ b ≠ p1 := fun b hb => by
    obtain ⟨cs, hcs⟩ := own_kin h2 hb
    refine ⟨fun e => ?_, fun e => ?_⟩
    · rw [e, h1] at hcs; simp at hcs
    · rw [e, h4] at hcs; simp at hcs
  have t7 : Touch v0.ownBlock.toList W w7 := (t8.mono (fun _ e => by cases e)).grown hg (fun k hk => Or.inl (by simp [hk]))
  have k3 : w7.heap[p3]? = some (.cells #[v0] 69 (0, 0)) := t7.keep h1 (fun hh => (nb p3 (by simpa using hh)).1 rfl)
  have ts : Touch [p3] w7 (w7.setCell ⟨p3, 0, none⟩ v') := (Touch.refl _ _).setCell (Or.inl (by simp)) _
  have hp3W : p3 < W.heap.size := block_lt h1
  have nv : ∀ b, v'.ownBlock = some b → b ≠ p3 ∧ ¬ b ∈ X := fun b hb => by
    rcases hat with e | e
    · rw [e] at hb
      exact ⟨(nb b hb).1, h3 b hb⟩
    · rw [e] at hb
      simp only [Option.some.injEq] at hb
      have := t8.size
      exact ⟨by omega, fun hh => by have := hX b hh; omega⟩
  refine ⟨k3, fun q hq => ?_, ⟨v', ?_, ?_, fun b hb => (nv b hb).2⟩, ?_, h5, h6, ?_⟩
  · have : q ≠ p3 := fun e => h5.2.1 (e ▸ hq)
    rw [Below.heap_setCell _ _ _ _ this]
    exact t7.block q (hX q hq) (fun hh => h3 q (by simpa using hh) hq)
  · have := bset (i := 0) k3 v'
    simpa using this
  · rw [List.length_append, List.length_singleton, (sw_old hl hold).2, cellsK_app, List.length_append, ← hn]
    exact own_touch ho ts (fun b hb hh => (nv b hb).1 (by simpa using hh))
  · exact (Below.heap_setCell _ _ _ _ (fun e => by
      rw [e] at h4
      rw [h1] at h4
      simp at h4)).trans (t7.keep h4 (fun hh => (nb p1 (by simpa using hh)).2 rfl))
  · exact (h7.trans t7 (fun i hi => Or.inr (h2.lt i (by simpa using hi)).1)).trans ts (fun i hi => by simp only [List.mem_singleton] at hi; subst hi; exact Or.inr h5.2.2)
def OlQ (w : World) (gs : List K) (v : Value) (w' : World) : Prop := w'.ownsRow w.heap.size 39 2 v gs.length (cellsK gs) ∧ Touch [] w w'
set_option maxRecDepth 100000 in
set_option maxHeartbeats 4000000 in
theorem oldM (w : World) (m : Nat) (F : List Nat) (c : Cf) (now : Int) (xs : List En) (h : Mq w m F c now xs) : Calls Try.prog 52 #[PT m] w fun e w' => ∃ v, e = .returned v ∧ OlQ w (swG c now xs) v w' := by
  refine (callsIn_wide (n := 0)).1 ?_
  obtain ⟨i3, hi, hz0, hz1, hz2⟩ := info_parts info36
  have HM := hid h
  obtain ⟨bm, o, G, rfl, hb⟩ := h
  have hlen := hb.len
  have HMB : Hid (∀ w', Touch [] w w' → Mb w' m bm o G c now xs) := hid (fun w' t => hb.keep0 t)
  have HO : Hid (∀ w', Touch [] w w' → Oq w' o G c.e (keysL xs)) := hid (fun w' t => (hb.keep0 t).oq)
  obtain ⟨V, hV⟩ : ∃ V, V = (w.alloc (.cells #[PT m] 26)).alloc (.cells #[.slice none 0 0] 69) := ⟨_, rfl⟩
  have TV : Touch [] w V := by rw [hV]; exact ((Touch.refl _ _).alloc _).alloc _
  have hp1 : V.heap[w.heap.size]? = some (.cells #[PT m] 26 (0, 0)) := by rw [hV]; exact (Below.heap_alloc _ _ _ (by simp)).trans (heap_alloc_new w _)
  have hp3 : V.heap[w.heap.size + 1]? = some (.cells #[.slice none 0 0] 69 (0, 0)) := by
    rw [hV]
    have := heap_alloc_new (w.alloc (.cells #[PT m] 26)) (.cells #[.slice none 0 0] 69)
    rwa [World.size_alloc] at this
  have c9 : V.cell? ⟨m, 9, none⟩ = some (.pointer (some ⟨o, 0, none⟩)) := (hb.keep0 TV).md.cs.c9
  have c1 : V.cell? ⟨w.heap.size, 0, none⟩ = some (.pointer (some ⟨m, 0, none⟩)) := by unfold PT at hp1; simp [World.cell?, hp1]
  clear hb
  refine callsIn_of_wp_marks Try.func52 rfl trivial (wpIn_wide.2 ?_) rfl
  simp only [Try.ntmps52, List.size_toArray, List.length_cons, List.length_nil, Nat.reduceAdd, Nat.reduceSub, Array.replicate_succ, Array.replicate_zero, List.push_toArray, List.append_toArray, List.nil_append, List.cons_append]
  have HA := fun w => all13 w o
  unfold PT at HA hV
  unfold PT
  go_upto_region 2 with fail
  rw [← hV]
  clear hV
  go_wp2_with (go_at_call 48; refine (HA _).mono ?_; rintro e w5 ⟨rfl, rfl⟩)
  obtain ⟨W0, hW0⟩ : ∃ W0, V.alloc (.cells #[.pointer (some ⟨o, 0, none⟩)] 88) = W0 := ⟨_, rfl⟩
  rw [hW0]
  have T0 : Touch [] V W0 := by rw [← hW0]; exact (Touch.refl _ _).alloc _
  have z0 : W0.heap.size = V.heap.size + 1 := by rw [← hW0]; simp
  have hz3 : w.heap.size + 1 < V.heap.size := block_lt hp3
  have k4 : W0.heap[V.heap.size]? = some (.cells #[.pointer (some ⟨o, 0, none⟩)] 88 (0, 0)) := by rw [← hW0]; exact heap_alloc_new _ _
  have k1 := T0.keep hp1 (by simp)
  have k3 := T0.keep hp3 (by simp)
  have TW := hid (TV.trans' T0)
  clear hW0 HA c9 c1 hp1 hp3
  refine (wpIn_wide (n := 0)).1 ?_
  refine range_at (s := 4) (p := 10) V.heap.size o G c.e (keysL xs) rfl rfl (by simp [World.cell?, k4, PT]) (block_lt k4) (HO.out _ TW.out) (by rw [keysL_len]; omega) (OlI w c now w.heap.size (w.heap.size + 1) m xs) (fun _ _ => False) ?_ (fun X pre W W' hi ht => hi.step ht) (fun _ _ _ h _ => h) ?_ ?_ ?_ ?_
  · intro X W t hX
    have hX' : ∀ k ∈ X, V.heap.size + 1 ≤ k := fun k hk => by have := hX k hk; omega
    refine ⟨⟨_, t.keep k3 (by simp), World.ownsRow_nil _ _ _ _, fun b hb hh => by cases hb⟩, t.keep k1 (by simp), ⟨fun hh => by have := hX' _ hh; omega, fun hh => by have := hX' _ hh; omega, by omega⟩, fun k hk => by have := hX' k hk; omega, TW.out.trans' t⟩
  · intro l x W K hK
    unfold ax kv at hK
    unfold kv
    gi_wp2
    exact hK
  · rintro l X pre x b W hi' hb hX ⟨post, hpost⟩
    have hbx : W.heap[b]? = some (.cells #[.int .u16 x.1, .string x.2] 39 (0, 0)) := hb
    have hbs := block_lt hb
    have hXW : ∀ k ∈ X, k < W.heap.size := fun k hk => by have := hX k hk; omega
    have hM := HM.out.keep0 hi'.2.2.2.2
    obtain ⟨v, hgv, hfv⟩ : ∃ v, xs[pre.length]? = some (x, v) ∧ fnd xs x = some v := by
      have h1 : (keysL xs)[pre.length]? = some x := by rw [hpost]; simp
      unfold keysL at h1
      rw [List.getElem?_map] at h1
      cases hy : xs[pre.length]? with
      | none => rw [hy] at h1; cases h1
      | some y =>
        rw [hy] at h1
        simp only [Option.map_some, Option.some.injEq] at h1
        obtain ⟨y1, y2⟩ := y
        simp only at h1
        subst h1
        exact ⟨y2, rfl, fnd_of_mem (x := (y1, y2)) hM.nd (List.mem_of_getElem? hy)⟩
    have hok : Ok x := hM.ok x (by rw [hpost]; simp)
    obtain ⟨⟨u, u1, u2, u3⟩, u4, u5, u6, u7⟩ := hi'
    have HI := hid (show OlI w c now w.heap.size (w.heap.size + 1) m xs X pre W from ⟨⟨u, u1, u2, u3⟩, u4, u5, u6, u7⟩)
    have hbm := HMB.out _ u7
    have p1b := u4
    unfold PT at p1b
    have sM : ∀ w', Touch [] W w' → w'.cell? ⟨w.heap.size, 0, none⟩ = some (.pointer (some ⟨m, 0, none⟩)) := fun w' t => by
      have := t.keep p1b (by simp)
      simp [World.cell?, this]
    have sP : ∀ w', Touch [] W w' → w'.cell? ⟨m, 8, none⟩ = some (.map (some bm)) := fun w' t => (hbm.keep0 t).md.cs.c8
    have sC : ∀ w', Touch [] W w' → w'.cell? ⟨b, 0, none⟩ = some (.int .u16 x.1) := fun w' t => by
      have := t.keep hbx (by simp)
      simp [World.cell?, this]
    have sD : ∀ w', Touch [] W w' → w'.cell? ⟨b, 1, none⟩ = some (.string x.2) := fun w' t => by
      have := t.keep hbx (by simp)
      simp [World.cell?, this]
    have sL : ∀ w', Touch [] W w' → (Instr.lookup 91 (.map (some bm)) (.agg #[.int .u16 x.1, .string x.2]) false).run Try.prog w' = .ok (.agg #[.int .i64 v.1.1, .int .i64 v.1.2.1, .int .i64 v.1.2.2.1, .int .i64 v.1.2.2.2, .int .i64 v.2]) w' := fun w' t => by
      have := (hbm.keep0 t).mp.look (t := 91) Try.underlying91 (zero108 w') hok
      unfold mpf at this
      rw [hfv] at this
      exact this
    have HH : Hid (∀ w', Touch [] W w' → Calls Try.prog 65 #[.pointer (some ⟨m, 0, none⟩), .agg #[.int .i64 v.1.1, .int .i64 v.1.2.1, .int .i64 v.1.2.2.1, .int .i64 v.1.2.2.2, .int .i64 v.2]] w' fun e w'' => e = .returned (.int .i64 (howC c v.1 (now - v.2))) ∧ Touch [] w' w'') := hid (fun w' t => (hbm.keep0 t).how hfv)
    obtain ⟨hh, hhd⟩ : ∃ hh, hh = howC c v.1 (now - v.2) := ⟨_, rfl⟩
    rw [← hhd] at HH
    have hsz := u7.size
    have HXW := hid hXW
    have hu1 := hid u1
    have HU := hid u2
    have hbs2 : Hid (W.heap[b]? = some (.cells #[.int .u16 x.1, .string x.2] 39 (0, 0))) := hid hbx
    have hlp : pre.length < xs.length := by
      have := congrArg List.length hpost
      rw [keysL_len, List.length_append, List.length_cons] at this
      omega
    have hxp : xs[pre.length] = (x, v) := by
      have h1 := List.getElem?_eq_getElem hlp
      rw [hgv] at h1
      exact (Option.some.inj h1).symm
    have HGl : Hid ((swG c now (xs.take pre.length)).length ≤ 65536) := hid (by
      unfold swG
      rw [List.length_map]
      have h1 := List.length_filter_le (fun x => isOld c now x) (xs.take pre.length)
      have h2 : (xs.take pre.length).length ≤ xs.length := List.length_take_le' _ _
      omega)
    by_cases h3 : hh = 3
    · have hold : isOld c now xs[pre.length] = true := by rw [hxp]; exact decide_eq_true (by rw [← hhd]; exact h3)
      have HOld := hid hold
      have b3 : (hh == 3) = true := by simp [h3]
      clear hb hbx hM hfv hpost u2 u3 u4 u5 u6 u7 hX hXW hgv hok h3 hhd hold hbm p1b
      unfold ax kv
      simp only [List.setIfInBounds_toArray, List.set_cons_zero, List.set_cons_succ]
      gi_wp2
      refine region_round (S := fun w' => Touch [] W w') (by kernel_rfl) (fun h => by obtain ⟨_, _, h⟩ := h; exact h) (by rfl) ?_
      have hS0 : Touch [] W W.drew := (Touch.refl _ _).drew
      refine wpH_take (i := 0) (v := (.pointer (some ⟨m, 0, none⟩))) (some 11) rfl rfl (by kernel_rfl) (by kernel_rfl) (by kernel_rfl) (fun _ _ _ h => h) (Or.inl ⟨by rfl, fun w' hS => (by have z0 := sM _ hS; go_simp)⟩) hS0 ?_
      try simp only [Go.Act.put, List.setIfInBounds_toArray, List.set_cons_zero, List.set_cons_succ]
      refine wpH_take (i := 1) (v := (.pointer (some ⟨m, 0, none⟩))) (some 12) rfl rfl (by kernel_rfl) (by kernel_rfl) (by kernel_rfl) (fun _ _ _ h => h) (Or.inl ⟨by rfl, fun w' hS => (by have z0 := sM _ hS; go_simp)⟩) hS0 ?_
      try simp only [Go.Act.put, List.setIfInBounds_toArray, List.set_cons_zero, List.set_cons_succ]
      refine wpH_take (i := 2) (v := (.pointer (some ⟨m, 0, none⟩))) (some 13) rfl rfl (by kernel_rfl) (by kernel_rfl) (by kernel_rfl) (fun _ _ _ h => h) (Or.inl ⟨by rfl, fun w' hS => (by go_simp)⟩) hS0 ?_
      try simp only [Go.Act.put, List.setIfInBounds_toArray, List.set_cons_zero, List.set_cons_succ]
      refine wpH_take (i := 3) (v := (.pointer (some ⟨m, 8, none⟩))) (some 14) rfl rfl (by kernel_rfl) (by kernel_rfl) (by kernel_rfl) (fun _ _ _ h => h) (Or.inl ⟨by rfl, fun w' hS => (by go_simp)⟩) hS0 ?_
      try simp only [Go.Act.put, List.setIfInBounds_toArray, List.set_cons_zero, List.set_cons_succ]
      refine wpH_take (i := 4) (v := (.map (some bm))) (some 15) rfl rfl (by kernel_rfl) (by kernel_rfl) (by kernel_rfl) (fun _ _ _ h => h) (Or.inl ⟨by rfl, fun w' hS => (by have z0 := sP _ hS; go_simp)⟩) hS0 ?_
      try simp only [Go.Act.put, List.setIfInBounds_toArray, List.set_cons_zero, List.set_cons_succ]
      refine wpH_take (i := 5) (v := (.agg #[.int .u16 x.1, .string x.2])) (some 16) rfl rfl (by kernel_rfl) (by kernel_rfl) (by kernel_rfl) (fun _ _ _ h => h) (Or.inl ⟨by rfl, fun w' hS => (by have z0 := sC _ hS; have z1 := sD _ hS; go_simp)⟩) hS0 ?_
      try simp only [Go.Act.put, List.setIfInBounds_toArray, List.set_cons_zero, List.set_cons_succ]
      refine wpH_take (i := 6) (v := (.agg #[.int .i64 v.1.1, .int .i64 v.1.2.1, .int .i64 v.1.2.2.1, .int .i64 v.1.2.2.2, .int .i64 v.2])) (some 17) rfl rfl (by kernel_rfl) (by kernel_rfl) (by kernel_rfl) (fun _ _ _ h => h) (Or.inl ⟨by rfl, fun w' hS => (by have z0 := sL _ hS; go_simp)⟩) hS0 ?_
      try simp only [Go.Act.put, List.setIfInBounds_toArray, List.set_cons_zero, List.set_cons_succ]
      refine wpH_call (i := 7) (o := { dst := some 18, op := Op.call { callee := Callee.value (Operand.func 65), args := #[Operand.tmp 11, Operand.tmp 17], argTypes := #[26, 108] }, type := 3, pos := _, after := #[{ on := 0, ground := Ground.data }, { on := 6, ground := Ground.data }], guard := none }) (by kernel_rfl) rfl (fun K' hK => ?_)
      rw [if_pos (by rfl)]
      go_simp
      refine (HH.out _ hS0).mono ?_
      rintro e w6 ⟨rfl, t6⟩
      have hS6 := hS0.trans' t6
      clear t6
      refine hK.out _ _ hS6 ?_
      clear hK
      try simp only [Go.Act.put, List.setIfInBounds_toArray, List.set_cons_zero, List.set_cons_succ]
      refine wpH_take (i := 8) (v := (.bool true)) (some 19) rfl rfl (by kernel_rfl) (by kernel_rfl) (by kernel_rfl) (fun _ _ _ h => h) (Or.inl ⟨by rfl, fun w' hS => (by go_simp)⟩) hS6 ?_
      try simp only [Go.Act.put, List.setIfInBounds_toArray, List.set_cons_zero, List.set_cons_succ]
      refine wpAnyH_done (by kernel_rfl) ?_ _
      have q3 : w6.cell? ⟨w.heap.size + 1, 0, none⟩ = some u := by have := hS6.keep hu1.out (by simp); simp [World.cell?, this]
      have q4 := sC _ hS6
      have q5 := sD _ hS6
      have O7 : Hid (w6.ownsRow w.heap.size 39 2 u (swG c now (xs.take pre.length)).length (cellsK (swG c now (xs.take pre.length)))) := hid (own_touch HU.out hS6 (fun _ _ e => by cases e))
      have hsz6 := hS6.size
      have HS6 := hid hS6
      clear sM sP sC sD sL hS0 hS6
      gi_wp2_with (gi_at_builtin; refine Hid.out ?_)
      refine hid ?_
      refine wpListIn_append_lies _ rfl _ _ 69 rfl w.heap.size 39 i3 (.agg #[.int .u16 0, .string ⟨#[]⟩]) 2 24 Try.underlying69 hi hz0 hz1 hz2 rfl (by decide) u (swG c now (xs.take pre.length)).length (cellsK (swG c now (xs.take pre.length))) rfl (O7.out.alloc _) ⟨w6.heap.size, 0, none⟩ 1 1 [.int .u16 x.1, .string x.2] rfl rfl (cell_two_new _ _ _ _) (by simp [Value.oneCell']) (by decide) (by unfold maxLen; have := HGl.out; omega) (by have := HGl.out; omega) (by simp; omega) ?_
      intro g1 c1 w7 hown7 hgrow hat hlt7
      have HO7 := hid hown7
      have HG7 := hid hgrow
      have HAT := hid hat
      clear hown7 hgrow hat
      obtain ⟨k7, m7, n7⟩ := HI.out.push (n := (swG c now (xs.take pre.length)).length) (v' := .slice (some ⟨g1, 0, none⟩) ((swG c now (xs.take pre.length)).length + 1) c1) HXW.out (HS6.out.alloc _) hu1.out rfl hlp HOld.out (by rw [hxp]; exact HO7.out) HG7.out (HAT.out.elim (fun e => Or.inl (by rw [e]; rfl)) (fun e => Or.inr (by rw [← e]; rfl))) x
      have s0 : w7.cell? ⟨w.heap.size + 1, 0, none⟩ = some u := by simp [World.cell?, k7]
      have s1 : w7.frozen? ⟨w.heap.size + 1, 0, none⟩ = false := by simp [World.frozen?, k7]
      have M7 := hid m7
      have N7 := hid n7
      clear m7 n7 k7 q3 q4 q5
      gi_wp2
      exact ⟨M7.out, N7.out⟩
    · have hold : isOld c now xs[pre.length] = false := by rw [hxp]; exact decide_eq_false (by rw [← hhd]; exact h3)
      have HOld := hid hold
      have b3 : (hh == 3) = false := by simp [h3]
      clear hb hbx hM hfv hpost u2 u3 u4 u5 u6 u7 hX hXW hgv hok h3 hhd hold hbm p1b
      unfold ax kv
      simp only [List.setIfInBounds_toArray, List.set_cons_zero, List.set_cons_succ]
      gi_wp2
      refine region_round (S := fun w' => Touch [] W w') (by kernel_rfl) (fun h => by obtain ⟨_, _, h⟩ := h; exact h) (by rfl) ?_
      have hS0 : Touch [] W W.drew := (Touch.refl _ _).drew
      refine wpH_take (i := 0) (v := (.pointer (some ⟨m, 0, none⟩))) (some 11) rfl rfl (by kernel_rfl) (by kernel_rfl) (by kernel_rfl) (fun _ _ _ h => h) (Or.inl ⟨by rfl, fun w' hS => (by have z0 := sM _ hS; go_simp)⟩) hS0 ?_
      try simp only [Go.Act.put, List.setIfInBounds_toArray, List.set_cons_zero, List.set_cons_succ]
      refine wpH_take (i := 1) (v := (.pointer (some ⟨m, 0, none⟩))) (some 12) rfl rfl (by kernel_rfl) (by kernel_rfl) (by kernel_rfl) (fun _ _ _ h => h) (Or.inl ⟨by rfl, fun w' hS => (by have z0 := sM _ hS; go_simp)⟩) hS0 ?_
      try simp only [Go.Act.put, List.setIfInBounds_toArray, List.set_cons_zero, List.set_cons_succ]
      refine wpH_take (i := 2) (v := (.pointer (some ⟨m, 0, none⟩))) (some 13) rfl rfl (by kernel_rfl) (by kernel_rfl) (by kernel_rfl) (fun _ _ _ h => h) (Or.inl ⟨by rfl, fun w' hS => (by go_simp)⟩) hS0 ?_
      try simp only [Go.Act.put, List.setIfInBounds_toArray, List.set_cons_zero, List.set_cons_succ]
      refine wpH_take (i := 3) (v := (.pointer (some ⟨m, 8, none⟩))) (some 14) rfl rfl (by kernel_rfl) (by kernel_rfl) (by kernel_rfl) (fun _ _ _ h => h) (Or.inl ⟨by rfl, fun w' hS => (by go_simp)⟩) hS0 ?_
      try simp only [Go.Act.put, List.setIfInBounds_toArray, List.set_cons_zero, List.set_cons_succ]
      refine wpH_take (i := 4) (v := (.map (some bm))) (some 15) rfl rfl (by kernel_rfl) (by kernel_rfl) (by kernel_rfl) (fun _ _ _ h => h) (Or.inl ⟨by rfl, fun w' hS => (by have z0 := sP _ hS; go_simp)⟩) hS0 ?_
      try simp only [Go.Act.put, List.setIfInBounds_toArray, List.set_cons_zero, List.set_cons_succ]
      refine wpH_take (i := 5) (v := (.agg #[.int .u16 x.1, .string x.2])) (some 16) rfl rfl (by kernel_rfl) (by kernel_rfl) (by kernel_rfl) (fun _ _ _ h => h) (Or.inl ⟨by rfl, fun w' hS => (by have z0 := sC _ hS; have z1 := sD _ hS; go_simp)⟩) hS0 ?_
      try simp only [Go.Act.put, List.setIfInBounds_toArray, List.set_cons_zero, List.set_cons_succ]
      refine wpH_take (i := 6) (v := (.agg #[.int .i64 v.1.1, .int .i64 v.1.2.1, .int .i64 v.1.2.2.1, .int .i64 v.1.2.2.2, .int .i64 v.2])) (some 17) rfl rfl (by kernel_rfl) (by kernel_rfl) (by kernel_rfl) (fun _ _ _ h => h) (Or.inl ⟨by rfl, fun w' hS => (by have z0 := sL _ hS; go_simp)⟩) hS0 ?_
      try simp only [Go.Act.put, List.setIfInBounds_toArray, List.set_cons_zero, List.set_cons_succ]
      refine wpH_call (i := 7) (o := { dst := some 18, op := Op.call { callee := Callee.value (Operand.func 65), args := #[Operand.tmp 11, Operand.tmp 17], argTypes := #[26, 108] }, type := 3, pos := _, after := #[{ on := 0, ground := Ground.data }, { on := 6, ground := Ground.data }], guard := none }) (by kernel_rfl) rfl (fun K' hK => ?_)
      rw [if_pos (by rfl)]
      go_simp
      refine (HH.out _ hS0).mono ?_
      rintro e w6 ⟨rfl, t6⟩
      have hS6 := hS0.trans' t6
      clear t6
      refine hK.out _ _ hS6 ?_
      clear hK
      try simp only [Go.Act.put, List.setIfInBounds_toArray, List.set_cons_zero, List.set_cons_succ]
      refine wpH_take (i := 8) (v := (.bool false)) (some 19) rfl rfl (by kernel_rfl) (by kernel_rfl) (by kernel_rfl) (fun _ _ _ h => h) (Or.inl ⟨by rfl, fun w' hS => (by go_simp)⟩) hS6 ?_
      try simp only [Go.Act.put, List.setIfInBounds_toArray, List.set_cons_zero, List.set_cons_succ]
      refine wpAnyH_done (by kernel_rfl) ?_ _
      have HE : Hid ((∀ q ∈ X, w6.heap[q]? = W.heap[q]?) ∧ OlI w c now w.heap.size (w.heap.size + 1) m xs X (pre ++ [x]) w6) := hid ⟨fun q hq => hS6.block q (HXW.out q hq) (by simp), (HI.out.step (hS6.mono (fun _ e => by cases e))).same hlp HOld.out x⟩
      clear sM sP sC sD sL hS0 hS6
      gi_wp2
      exact HE.out
  · rintro X D W hD hDX hi' hK
    obtain ⟨⟨u, u1, u2, u3⟩, u4, u5, u6, u7⟩ := hi'
    have q0 : W.cell? ⟨w.heap.size + 1, 0, none⟩ = some u := by simp [World.cell?, u1]
    have HE : Hid (OlI w c now w.heap.size (w.heap.size + 1) m xs X (keysL xs) W) := hid ⟨⟨u, u1, u2, u3⟩, u4, u5, u6, u7⟩
    have HU1 := hid u1
    unfold dfr
    clear u1 u2 u3 u4 u5 u6 u7
    have HKD := hid hK
    clear hK
    go_wp2
    refine ⟨by simp, .inl ⟨_, _, rfl, run_takeDeferred HKD.out, ?_⟩⟩
    refine ⟨u, by simp [results, Try.results52, go_sem], u, rfl, ?_⟩
    obtain ⟨⟨u', u1, u2, u3⟩, u4, u5, u6, u7⟩ := HE.out.step (touch_putObj W (l := D) (.deferred none) hDX)
    have : u' = u := by
      have h1 := (touch_putObj W (l := D) (.deferred none) hDX).keep HU1.out HE.out.2.2.1.2.1
      rw [h1] at u1
      simpa using u1.symm
    subst this
    refine ⟨?_, u7⟩
    rw [keysL_len, List.take_length] at u2
    exact u2
  · intro X D W _ _ h
    exact h.elim
end Go.Proofs.Ytopepalpmkeffaa
/- The contract of a memo's Drop; no conditions. -/
namespace Go.Proofs.Ytopepalpmkeffaa
open Go.RowKit Go.Sort Go.Maps Go.ChangeMaps Go.WideMaps
set_option linter.unusedVariables false
set_option linter.unusedSimpArgs false
theorem drx_length {xs : List En} (hn : (keysL xs).Nodup) (k : K) : (drx xs k).length = if (mpf xs k).isSome then xs.length - 1 else xs.length := by
  have h := putY_len hn k ((0, 0, 0, 0), 0)
  unfold putY at h
  rw [List.length_append, List.length_singleton] at h
  split at h
  · rename_i e; rw [if_pos e]; omega
  · rename_i e; rw [if_neg e]; omega
theorem del_mpf (xs : List En) (k : K) : Ytopepalpmkeffaa.del (mpf xs) k = mpf (drx xs k) := by
  funext j
  unfold Ytopepalpmkeffaa.del mpf
  by_cases e : j = k
  · rw [if_pos e, e, fnd_drx_same]; rfl
  · rw [if_neg e, fnd_drx_other xs e]
theorem dropB (w : World) (o : Nat) (F : List Nat) (most : Int) (ks : List K) (k : K) (hk : Ok k) (h : Oq w o F most ks) : Calls Try.prog 53 #[PT o, kv k] w fun x w' => x = .returned (.bool (hs ks k)) ∧ Ch w o F most (dr ks k) w' := by
  by_cases hm : k ∈ ks
  · rw [hs_yes hm]
    exact dropO_yes w o F most ks k hm h
  · rw [hs_no hm, dr_no hm]
    exact (dropO_no w o F most ks k hk hm h).mono fun x w' ⟨he, t⟩ => ⟨he, F, h.keep0 t, t.mono (fun _ e => by cases e), Nf.refl _ _⟩
set_option maxHeartbeats 2000000 in
theorem dropM (w : World) (m : Nat) (F : List Nat) (c : Cf) (now : Int) (xs : List En) (h : Mq w m F c now xs) (k : K) (hk : Ok k) :
    Calls Try.prog 25 #[PT m, kv k] w fun e w' => e = .returned (.bool (hs (keysL xs) k)) ∧ Mc w m F c now (drx xs k) w' := by
  obtain ⟨b, o, G, rfl, h⟩ := h
  obtain ⟨V, hV⟩ : ∃ V, V = w.alloc (bx k) := ⟨_, rfl⟩
  have TV : Touch [] w V := by rw [hV]; exact (Touch.refl _ _).alloc _
  have hB : V.heap[w.heap.size]? = some (bx k) := by rw [hV]; exact heap_alloc_new w _
  have hV' := h.keep0 TV
  obtain ⟨ob, hu, hmp⟩ := (show MapAt V.drew b _ _ from hV'.mp.kept rfl).del (t := 91) Try.underlying91 hk 0
  obtain ⟨W1, hW⟩ : ∃ W1, W1 = setBlock V.drew b ob := ⟨_, rfl⟩
  rw [← hW] at hu hmp
  have T1 : Touch [b] V W1 := by rw [hW]; exact touch_setBlock ((Touch.refl _ _).drew) (Or.inl (by simp)) _
  have hlt := h.lt
  have hbl := hlt b (by simp)
  have O1 : Oq W1 o G c.e (keysL xs) := hV'.oq.keep T1 (fun i hi hh => by simp only [List.mem_singleton] at hh; subst hh; exact h.bg hi)
  have m1 : Md W1 m c now b o := T1.keep hV'.md (by simpa using h.mb.symm)
  have B1 : W1.heap[w.heap.size]? = some (bx k) := T1.keep hB (by simp; omega)
  have HD : Hid (Calls Try.prog 53 #[PT o, kv k] W1.drew fun x w' => x = .returned (.bool (hs (keysL xs) k)) ∧ Touch G W1 w' ∧ Mc w m (m :: b :: G) c now (drx xs k) w') := hid ((dropB W1.drew o G c.e (keysL xs) k hk (O1.keep0 (Touch.refl _ _).drew)).mono (by
    rintro x w3 ⟨rfl, G', c1, c2, c3⟩
    have T3 : Touch G W1 w3 := ((Touch.refl G W1).drew).trans' c2
    have hz1 := T1.size
    have hz0 := TV.size
    refine ⟨rfl, T3, m :: b :: G', ⟨b, o, G', rfl, T3.keep m1 h.mg, ?_, ?_, h.gd.drop k, fun hh => (c3 b hh).elim h.bg (fun e => by have : W1.heap.size ≤ b := e; omega)⟩, ?_, fun i hi => ?_⟩
    · rw [drx_length h.nd, ← del_mpf]
      exact hmp.kept (T3.block b hmp.lt h.bg)
    · rw [drx_keys]
      exact c1
    · exact ((TV.mono (fun _ e => by cases e)).trans' (T1.mono (fun i hi => by simp only [List.mem_singleton] at hi; subst hi; simp))).trans' (T3.mono (fun i hi => by simp [hi]))
    · simp only [List.mem_cons] at hi ⊢
      rcases hi with rfl | rfl | hi
      · exact Or.inl (Or.inl rfl)
      · exact Or.inl (Or.inr (Or.inl rfl))
      · exact (c3 i hi).elim (fun e => Or.inl (Or.inr (Or.inr e))) (fun e => Or.inr (by have : W1.heap.size ≤ i := e; omega))))
  have c8 : V.cell? ⟨m, 8, none⟩ = some (.map (some b)) := hV'.md.cs.c8
  have sA : ∀ w', Touch G W1 w' → w'.cell? ⟨m, 9, none⟩ = some (.pointer (some ⟨o, 0, none⟩)) := fun w' t => (show Md w' m c now b o from t.keep m1 h.mg).cs.c9
  have sB : ∀ w', Touch G W1 w' → w'.cell? ⟨w.heap.size, 0, none⟩ = some (.int .u16 k.1) := fun w' t => by
    have := t.keep B1 (fun hh => by have := hlt w.heap.size (by simp [hh]); omega)
    unfold bx at this
    simp [World.cell?, this]
  have sC : ∀ w', Touch G W1 w' → w'.cell? ⟨w.heap.size, 1, none⟩ = some (.string k.2) := fun w' t => by
    have := t.keep B1 (fun hh => by have := hlt w.heap.size (by simp [hh]); omega)
    unfold bx at this
    simp [World.cell?, this]
  unfold bx at hB
  have b0 : V.cell? ⟨w.heap.size, 0, none⟩ = some (.int .u16 k.1) := by simp [World.cell?, hB]
  have b1 : V.cell? ⟨w.heap.size, 1, none⟩ = some (.string k.2) := by simp [World.cell?, hB]
  clear h hV' hmp T1 O1 m1 B1 hB hW TV
  generalize hs (keysL xs) k = B at *
  unfold PT kv at *
  go_enter Try.func25, Try.ntmps25
  go_wp2
  unfold bx at hV
  rw [← hV]
  clear hV
  go_region
  clear b0 b1 c8 hu
  go_upto_region 4 with fail
  have t0 : Touch G W1 W1.drew := (Touch.refl _ _).drew
  go_region_held3 (fun w' => Touch G W1 w') (first | assumption | exact (Touch.refl _ _).drew) ((go_at_call 53; refine HD.out.mono ?_; rintro e w3 ⟨rfl, t3, c3⟩; have C3 := hid c3; clear c3))
  go_wp2
  go_ret
  exact ⟨rfl, C3.out⟩
end Go.Proofs.Ytopepalpmkeffaa
/- The contract of Sweep; no conditions. -/
namespace Go.Proofs.Ytopepalpmkeffaa
open Go.RowKit Go.Sort Go.Maps Go.ChangeMaps Go.WideMaps
set_option linter.unusedVariables false
set_option linter.unusedSimpArgs false
def drs (xs : List En) (gs : List K) : List En := gs.foldl drx xs
theorem drs_filter (gs : List K) : ∀ xs : List En, drs xs gs = xs.filter (fun x => !hs gs x.1) := by
  induction gs with
  | nil =>
    intro xs
    exact (List.filter_eq_self.2 (fun _ _ => rfl)).symm
  | cons k gs ih =>
    intro xs
    have e1 : drs xs (k :: gs) = drs (drx xs k) gs := rfl
    rw [e1, ih]
    unfold drx
    rw [List.filter_filter]
    refine List.filter_congr (fun x _ => ?_)
    unfold hs
    rw [List.any_cons]
    by_cases e : x.1 = k
    · simp [e]
    · have e' : ¬ k = x.1 := fun h => e h.symm
      simp [e, e']
theorem drs_snoc (xs : List En) (gs : List K) (k : K) : drs xs (gs ++ [k]) = drx (drs xs gs) k := by
  unfold drs
  rw [List.foldl_append]
  rfl
theorem swG_hs {c : Cf} {now : Int} {xs : List En} (hn : (keysL xs).Nodup) {x : En} (hx : x ∈ xs) : hs (swG c now xs) x.1 = isOld c now x := by
  cases ho : isOld c now x with
  | true => exact hs_yes (List.mem_map.2 ⟨x, List.mem_filter.2 ⟨hx, ho⟩, rfl⟩)
  | false =>
    refine hs_no (fun hh => ?_)
    obtain ⟨y, hy, he⟩ := List.mem_map.1 hh
    obtain ⟨hy1, hy2⟩ := List.mem_filter.1 hy
    have e1 := fnd_of_mem hn hx
    have e2 := fnd_of_mem hn hy1
    rw [he, e1] at e2
    have e3 : x.2 = y.2 := by simpa using e2
    have e4 : y = x := Prod.ext he e3.symm
    rw [e4, ho] at hy2
    cases hy2
theorem drs_sweep {c : Cf} {now : Int} {xs : List En} (hn : (keysL xs).Nodup) : drs xs (swG c now xs) = swX c now xs := by
  rw [drs_filter]
  unfold swX
  exact List.filter_congr (fun x hx => by rw [swG_hs hn hx])
theorem swG_len (c : Cf) (now : Int) (xs : List En) : (swG c now xs).length ≤ xs.length := by
  unfold swG
  rw [List.length_map]
  exact List.length_filter_le _ _
theorem swG_mem {c : Cf} {now : Int} {xs : List En} {k : K} (h : k ∈ swG c now xs) : k ∈ keysL xs := by
  obtain ⟨y, hy, he⟩ := List.mem_map.1 h
  exact List.mem_map.2 ⟨y, (List.mem_filter.1 hy).1, he⟩
theorem sweep23_tick (w : World) (m : Nat) (F : List Nat) (c : Cf) (now n : Int) (xs : List En) (h : Mq w m F c now xs) (ht : tickE now n ≠ 0) :
    Calls Try.prog 23 #[PT m, .int .i64 n] w fun e w' => e = .returned (.tuple #[.slice none 0 0, .int .i64 (tickE now n)]) ∧ w' = w := by
  have HT := hid (h.tick n)
  clear h
  have hb : ((tickE now n) == 0) = false := by simp [ht]
  clear ht
  generalize tickE now n = E at *
  unfold PT at *
  go_enter Try.func23, Try.ntmps23
  go_wp2_with (go_at_call 45; refine HT.out.mono ?_; rintro e w2 ⟨rfl, e2⟩; rw [e2]; clear e2 w2)
  exact bodyPost_ret (v := .tuple #[.slice none 0 0, .int .i64 E]) (by simp [results, Try.results23, go_sem]) rfl ⟨rfl, rfl⟩
/-- What holds in the loop over the keys that go. -/
structure SwL (w1 : World) (m : Nat) (F : List Nat) (c : Cf) (n : Int) (xs : List En) (gs : List K) (u : Value) (i : Nat) (wr : World) : Prop where
  mc : Mc w1 m F c n (drs xs (gs.take i)) wr
  rt : RT 39 wr u gs
theorem SwL.drop {w1 wr wr' : World} {m : Nat} {F : List Nat} {c : Cf} {n : Int} {xs : List En} {gs : List K} {u : Value} {i : Nat} (h : SwL w1 m F c n xs gs u i wr) (t : Touch [] wr wr') (hi : i < gs.length) (ok : Ok gs[i]) :
    Calls Try.prog 25 #[PT m, kv gs[i]] wr' fun e w3 => (∃ b, e = .returned (.bool b)) ∧ SwL w1 m F c n xs gs u (i + 1) w3 := by
  have mc' := h.mc.keep0 t
  have rt' := h.rt.keep t
  have e : drs xs (gs.take (i + 1)) = drx (drs xs (gs.take i)) gs[i] := by
    rw [List.take_succ_eq_append_getElem hi, drs_snoc]
  obtain ⟨F1, a1, a2, a3⟩ := mc'
  refine (dropM wr' m F1 c n _ a1 gs[i] ok).mono ?_
  rintro z w3 ⟨rfl, F2, b1, b2, b3⟩
  refine ⟨⟨_, rfl⟩, ⟨F2, by rw [e]; exact b1, a2.trans b2 a3, a3.trans b3 a2.size⟩, ?_⟩
  exact rt'.touch b2 (fun b hb => by
    obtain ⟨cs, hcs⟩ := rt'.kind hb
    exact a1.away hcs (by decide) (by decide) (by decide))
set_option maxHeartbeats 2000000 in
theorem sweep23_ok (w : World) (m : Nat) (F : List Nat) (c : Cf) (now n : Int) (xs : List En) (h : Mq w m F c now xs) (ht : tickE now n = 0) :
    Calls Try.prog 23 #[PT m, .int .i64 n] w fun e w' => ∃ u, e = .returned (.tuple #[u, .int .i64 0]) ∧ PtQ w m F c n (swG c n xs) (swX c n xs) u w' := by
  have HT := hid (h.tick n)
  rw [ht] at HT
  obtain ⟨q1, q2⟩ := tickE_ok ht
  have HC := hid (h.time q1 q2)
  obtain ⟨g0, g1⟩ := h.c7
  obtain ⟨W, hW⟩ : ∃ W, W = w.setCell ⟨m, 7, none⟩ (.int .i64 n) := ⟨_, rfl⟩
  rw [← hW] at HC
  obtain ⟨gs, hgs⟩ : ∃ gs, gs = swG c n xs := ⟨_, rfl⟩
  have HO : Hid (Calls Try.prog 52 #[PT m] W fun e w' => ∃ v, e = .returned v ∧ RT 39 w' v gs ∧ Touch [] W w') := hid (by
    obtain ⟨F', C1, C2, C3⟩ := HC.out
    refine (oldM W m F' c n xs C1).mono ?_
    rintro e w' ⟨v, rfl, hv1, hv2⟩
    exact ⟨v, rfl, by rw [hgs]; exact own_base hv1 (Nat.zero_le _), hv2⟩)
  have HS : Hid (drs xs gs = swX c n xs) := hid (by rw [hgs]; exact drs_sweep h.nd)
  have HK : Hid (∀ k ∈ gs, Ok k) := hid (fun k hk => h.ok k (swG_mem (hgs ▸ hk)))
  have hlen : gs.length ≤ 65536 := by rw [hgs]; exact Nat.le_trans (swG_len _ _ _) h.len
  rw [← hgs]
  clear h hgs ht q1 q2
  have T0 := HC.out
  obtain ⟨nn, hnn⟩ : ∃ nn, nn = gs.length := ⟨_, rfl⟩
  have HN := hid hnn
  rw [← hnn] at hlen
  have zn : (nn : Int) ≤ 65536 := by omega
  clear hnn T0
  unfold PT at *
  go_enter Try.func23, Try.ntmps23
  go_upto_region 5 with (go_at_call 45; refine HT.out.mono ?_; rintro e w2 ⟨rfl, e2⟩; rw [e2]; clear e2 w2)
  rw [← hW]
  clear hW g0 g1
  go_upto_block 0 with (go_at_call 52; refine HO.out.mono ?_; rintro e w3 ⟨u, rfl, u1, u2⟩; have U1 := hid u1; have U2 := hid u2; obtain ⟨a, cp, rfl, hg⟩ := u1.form; have HG := hid hg; clear u1 u2 hg; rw [← HN.out] at U1 HG ⊢)
  go_wp2_with fail
  go_loopw [24] (fun s24 wr => ∃ (i : Nat), s24 = .int .i64 (i : Int) ∧ i ≤ nn ∧ Hid (SwL w m F c n xs gs (.slice a nn cp) i wr)) (fun s _ => nn - (intOf s).toNat)
  case atStart => exact ⟨0, rfl, Nat.zero_le _, hid ⟨HC.out.keep0 U2.out, U1.out⟩⟩
  case round =>
    clear U1 U2
    obtain ⟨i, rfl, hi, HL⟩ := hrel
    by_cases hlt : i < nn
    · have zi : (i : Int) < (nn : Int) := by omega
      have hig : i < gs.length := by rw [← HN.out]; exact hlt
      obtain ⟨g, rfl⟩ := HG.out i hlt
      obtain ⟨r0, r1⟩ := RT.cells (by rw [← HN.out]; exact HL.out.rt) i hig
      have HDr : Hid (∀ wr', Touch [] wr wr' → Calls Try.prog 25 #[.pointer (some ⟨m, 0, none⟩), .agg #[.int .u16 gs[i].1, .string gs[i].2]] wr' fun e w3 => (∃ b, e = .returned (.bool b)) ∧ SwL w m F c n xs gs (.slice (some ⟨g, 0, none⟩) nn cp) (i + 1) w3) := hid (fun wr' t => HL.out.drop t hig (HK.out _ (List.getElem_mem hig)))
      have sz : i + 1 ≤ nn := hlt
      obtain ⟨k0, hk0⟩ : ∃ k0, k0 = gs[i] := ⟨_, rfl⟩
      rw [← hk0] at r0 r1 HDr
      clear hk0
      go_upto_region 9 with fail
      go_wp2_with (go_at_call 25; refine (HDr.out _ ((Touch.refl _ _).alloc _)).mono ?_; rintro e w3 ⟨⟨b, rfl⟩, l3⟩; have L3 := hid l3; clear l3)
      refine ⟨⟨i + 1, rfl, sz, L3⟩, ?_⟩
      simp only [intOf]
      omega
    · have zi : ¬ (i : Int) < (nn : Int) := by omega
      have ei : i = nn := by omega
      subst ei
      go_wp2
      refine bodyPost_ret (v := .tuple #[.slice a i cp, .int .i64 0]) (by simp [results, Try.results23, go_sem]) rfl ⟨_, rfl, HL.out.rt, ?_⟩
      have := HL.out.mc
      rw [HN.out, List.take_length, HS.out] at this
      exact this
def spG (c : Cf) (now n : Int) (xs : List En) : List K := if tickE now n = 0 then swG c n xs else []
def spX (c : Cf) (now n : Int) (xs : List En) : List En := if tickE now n = 0 then swX c n xs else xs
def spN (now n : Int) : Int := if tickE now n = 0 then n else now
theorem sweepM (w : World) (m : Nat) (F : List Nat) (c : Cf) (now n : Int) (xs : List En) (h : Mq w m F c now xs) :
    Calls Try.prog 23 #[PT m, .int .i64 n] w fun e w' => ∃ u, e = .returned (.tuple #[u, .int .i64 (tickE now n)]) ∧ PtQ w m F c (spN now n) (spG c now n xs) (spX c now n xs) u w' := by
  unfold spG spX spN
  by_cases ht : tickE now n = 0
  · rw [if_pos ht, if_pos ht, if_pos ht, ht]
    exact sweep23_ok w m F c now n xs h ht
  · rw [if_neg ht, if_neg ht, if_neg ht]
    refine (sweep23_tick w m F c now n xs h ht).mono ?_
    rintro e w' ⟨rfl, rfl⟩
    exact ⟨_, rfl, RT.nil 39 w', Mc.refl h⟩
end Go.Proofs.Ytopepalpmkeffaa
/- The contract of a memo's Clone: a memo of its own that keeps the same; no conditions. -/
namespace Go.Proofs.Ytopepalpmkeffaa
open Go.RowKit Go.Sort Go.Maps Go.ChangeMaps Go.WideMaps
set_option linter.unusedVariables false
set_option linter.unusedSimpArgs false
theorem MapAt.copy {w : World} {b n : Nat} {f : K → Option Value} (h : MapAt w b n f) : ∃ es cl, w.heap[b]? = some (.map es cl) ∧ MapAt (w.alloc (.map es cl)) w.heap.size n f := by
  obtain ⟨D, ⟨es, cl, hb, r⟩, h2, h3⟩ := h
  exact ⟨es, cl, hb, D, ⟨es, cl, heap_alloc_new w _, r⟩, h2, h3⟩
set_option maxHeartbeats 1000000 in
theorem clone54 (w : World) (b n : Nat) (f : K → Option Value) (h : MapAt w b n f) : Calls Try.prog 54 #[.map (some b)] w fun e w' => e = .returned (.map (some w.heap.size)) ∧ MapAt w' w.heap.size n f ∧ Touch [] w w' := by
  obtain ⟨es, cl, hb, hm⟩ := h.copy
  have HM := hid hm
  have hq := fun w => run_eql_map_nil_sl (P := Try.prog) w 91 _ _ (some b) Try.underlying91
  have hta := fun w v => run_typeAssert_map_sl (P := Try.prog) w 91 20 _ _ v Try.underlying91
  clear h hm
  go_enter Try.func54, Try.ntmps54
  go_wp2
  rw [run_callFunc_extern Try.func69 (by kernel_rfl) (by kernel_rfl) (by kernel_rfl) (e := Extern.MapsClone.clone) (by kernel_rfl), run_maps_clone_sl w 91 hb]
  simp only [Result.andThen]
  rw [Oper.upon_value]
  go_wp2
  go_ret
  exact ⟨rfl, HM.out, (Touch.refl _ _).alloc _⟩
def CpQ (w : World) (m2 : Nat) (c : Cf) (now : Int) (xs : List En) (w' : World) : Prop := ∃ F', Mq w' m2 F' c now xs ∧ (∀ k ∈ F', w.heap.size ≤ k) ∧ Touch [] w w'
set_option maxHeartbeats 2000000 in
theorem cloneM (w : World) (m : Nat) (F : List Nat) (c : Cf) (now : Int) (xs : List En) (h : Mq w m F c now xs) : Calls Try.prog 28 #[PT m] w fun e w' => ∃ m2, e = .returned (PT m2) ∧ CpQ w m2 c now xs w' := by
  obtain ⟨b, o, G, rfl, h⟩ := h
  have hg := h.gd
  have hlen := h.len
  have HA : Hid (∀ w', Touch [] w w' → Calls Try.prog 54 #[.map (some b)] w' fun e w2 => ∃ b2, e = .returned (.map (some b2)) ∧ Touch [] w w2 ∧ w.heap.size ≤ b2 ∧ MapAt w2 b2 xs.length (mpf xs)) := hid (fun w' t => by
    refine (clone54 w' b _ _ (h.keep0 t).mp).mono ?_
    rintro e w2 ⟨rfl, h1, h2⟩
    exact ⟨_, rfl, t.trans' h2, t.size, h1⟩)
  have HB : Hid (∀ w' b2, Touch [] w w' → MapAt w' b2 xs.length (mpf xs) → Calls Try.prog 55 #[.pointer (some ⟨o, 0, none⟩)] w' fun e w2 => ∃ o2, e = .returned (.pointer (some ⟨o2, 0, none⟩)) ∧ Touch [] w w2 ∧ ∃ G2, Oq w2 o2 G2 c.e (keysL xs) ∧ (∀ k ∈ G2, w.heap.size ≤ k) ∧ ¬ b2 ∈ G2 ∧ MapAt w2 b2 xs.length (mpf xs)) := hid (fun w' b2 t hm => by
    refine (cloneO w' o G c.e (keysL xs) (by rw [keysL_len]; omega) (h.keep0 t).oq).mono ?_
    rintro e w2 ⟨rfl, G2, h1, h2, h3⟩
    exact ⟨_, rfl, t.trans' h3, G2, h1, fun k hk => Nat.le_trans t.size (h2 k hk), fun hh => by have := h2 _ hh; have := hm.lt; omega, hm.kept (h3.block _ hm.lt (by simp))⟩)
  have sC : ∀ w', Touch [] w w' → MdC w' m c now b o := fun w' t => (h.keep0 t).md.cs
  have s0 := fun w' t => (sC w' t).c0
  have s1 := fun w' t => (sC w' t).c1
  have s2 := fun w' t => (sC w' t).c2
  have s3 := fun w' t => (sC w' t).c3
  have s4 := fun w' t => (sC w' t).c4
  have s5 := fun w' t => (sC w' t).c5
  have s6 := fun w' t => (sC w' t).c6
  have s7 := fun w' t => (sC w' t).c7
  have s8 := fun w' t => (sC w' t).c8
  have s9 := fun w' t => (sC w' t).c9
  have HG := hid hg
  clear h sC hg hlen
  unfold PT
  go_enter Try.func28, Try.ntmps28
  go_upto_region 3 with fail
  have t0 : Touch [] w w.drew := (Touch.refl _ _).drew
  go_region_held3 (fun w' => Touch [] w w') (repeat (first | assumption | exact Touch.refl _ _ | apply Touch.alloc | apply Touch.drew)) (first
    | (go_at_call 54; refine (HA.out _ (by first | assumption | exact (Touch.refl _ _).drew)).mono ?_; rintro e w2 ⟨b2, rfl, t2, z2, m2⟩; have M2 := hid m2; clear m2)
    | (go_at_call 55; refine (HB.out _ b2 (by assumption) M2.out).mono ?_; rintro e w3 ⟨o2, rfl, t3, q3⟩; have Q3 := hid q3; clear q3)
    | fail)
  all_goals
    go_wp2
    refine bodyPost_ret (v := .pointer (some ⟨w3.heap.size, 0, none⟩)) (by simp [results, Try.results28, go_sem]) rfl ⟨_, rfl, ?_⟩
    obtain ⟨G2, q1, q2, q3, q4⟩ := Q3.out
    have tn : Touch [] w3 (w3.alloc (.cells (mcs c now b2 o2) 93)) := (Touch.refl _ _).alloc _
    refine ⟨w3.heap.size :: b2 :: G2, ⟨b2, o2, G2, rfl, heap_alloc_new w3 _, q4.kept (tn.block _ q4.lt (by simp)), q1.keep0 tn, HG.out, q3⟩, fun k hk => ?_, t3.trans' tn⟩
    simp only [List.mem_cons] at hk
    rcases hk with rfl | rfl | hk
    · exact t3.size
    · exact z2
    · exact q2 k hk
end Go.Proofs.Ytopepalpmkeffaa
