/- The law's act: what its kinds share; the kinds that look and keep; no conditions but those that it states. -/
import Derived.Test.YtopepalpmkeffaaGdl
import Derived.Test.YtopepalpmkeffaaGkp
import Derived.Test.YtopepalpmkeffaaGst
namespace Go.Proofs.Ytopepalpmkeffaa
open Go.RowKit Go.Sort Go.Maps Go.ChangeMaps Go.WideMaps
set_option linter.unusedVariables false
set_option linter.unusedSimpArgs false
def kq (a : ActM) : Int := (wrap64 (a.kd.tmod 7 + 7)).tmod 7
section
variable {w wx wy : World} {m : Nat} {F : List Nat} {c : Cf} {a : ActM} {v : Value} {nw n2 : Int} {xs ys : List En}
theorem PlS.callP (h : PlS w m F c a v nw n2 xs ys wx) {f : Nat} {args : Array Value} (hc : ∀ F', Mq wx m F' c n2 ys → Calls Try.prog f args wx (PlQ wx m F' c)) :
    Calls Try.prog f args wx fun e w' => ∃ a2 k2 c2 now2 zs, e = .returned (.tuple #[mvv c (.slice a2 k2 c2) now2, .bool true]) ∧ Bx w c a v nw w' ∧ Mc w m F c now2 zs w' ∧ RN 62 w' (.slice a2 k2 c2) zs := by
  obtain ⟨F1, q, t1, f1⟩ := h.mc
  refine (hc F1 q).mono ?_
  rintro e w' ⟨a2, k2, c2, now2, zs, rfl, ⟨F2, q2, t2, f2⟩, r2⟩
  exact ⟨a2, k2, c2, now2, zs, rfl, h.bx.mq q t2, ⟨F2, q2, t1.trans t2 f1, f1.trans f2 t1.size⟩, r2⟩
theorem Bx.fin {u : Value} {zs : List En} (hb : Bx w c a v nw wx) (hm : Mc w m F c n2 zs wx) (hu : RN 62 wx u zs) (t : Touch [w.heap.size + 1 + 1] wx wy) : Mc w m F c n2 zs wy ∧ RN 62 wy u zs := by
  obtain ⟨cs, h1, h2⟩ := hb.hR
  obtain ⟨F1, q, t1, f1⟩ := hm
  have hn : ¬ (w.heap.size + 1 + 1) ∈ F1 := q.away h1 (by decide) (by decide) (by decide)
  exact ⟨⟨F1, q.keep t (fun k hk hh => by simp only [List.mem_singleton] at hh; subst hh; exact hn hk), t1.trans t (fun i hi => by simp only [List.mem_singleton] at hi; subst hi; exact Or.inr (by omega)), f1⟩,
    hu.keepK (fun k cs' hk => t.keep hk (fun hh => by simp only [List.mem_singleton] at hh; subst hh; rw [h1] at hk; simp at hk))⟩
theorem Bx.s9 (h : Bx w c a v nw wx) (v0 v1 v2 v3 v4 v5 v6 v7 v8 : Value) : Bx w c a v nw (((((((((wx.setCell ⟨w.heap.size + 1 + 1, 0, none⟩ v0).setCell ⟨w.heap.size + 1 + 1, 1, none⟩ v1).setCell ⟨w.heap.size + 1 + 1, 2, none⟩ v2).setCell ⟨w.heap.size + 1 + 1, 3, none⟩ v3).setCell ⟨w.heap.size + 1 + 1, 4, none⟩ v4).setCell ⟨w.heap.size + 1 + 1, 5, none⟩ v5).setCell ⟨w.heap.size + 1 + 1, 6, none⟩ v6).setCell ⟨w.heap.size + 1 + 1, 7, none⟩ v7).setCell ⟨w.heap.size + 1 + 1, 8, none⟩ v8) := h.under (h.sr.s9 v0 v1 v2 v3 v4 v5 v6 v7 v8)
end
set_option maxHeartbeats 8000000 in
set_option maxRecDepth 100000 in
theorem act13_2 (w : World) (m : Nat) (F : List Nat) (c : Cf) (now : Int) (xs : List En) (v : Value) (a : ActM) (h : Mq w m F c now xs) (hr : RN 62 w v xs) (ok : Ok a.k) (hq : kq a = 2) : Calls Try.prog 13 #[PT m, mvv c v now, avv a] w (PlQ w m F c) := by
  obtain ⟨a1, c1, rfl, hcp1, hg1⟩ := hr
  have hr : RN 62 w (.slice a1 xs.length c1) xs := ⟨a1, c1, rfl, hcp1, hg1⟩
  have HF := hid h.lt
  obtain ⟨V, hV⟩ : ∃ V, V = ((w.alloc (mbx c (.slice a1 xs.length c1) now)).alloc (abx a)).alloc mzx := ⟨_, rfl⟩
  have TV : Touch [] w V := by rw [hV]; exact (((Touch.refl _ _).alloc _).alloc _).alloc _
  have PV : Hid (PlS w m F c a (.slice a1 xs.length c1) now now xs xs V) := hid (PlS.start h hr (by rw [hV]; exact Bx.mk' w c a _ now) TV)
  obtain ⟨n1, hn1⟩ : ∃ n1, n1 = xs.length := ⟨_, rfl⟩
  rw [← hn1] at PV hV ⊢
  have HGd := hid (And.intro h.gd (And.intro h.nd h.len))
  clear hn1 hg1 hr h TV
  have HL : Hid (Calls Try.prog 30 #[PT m, mvv c (.slice a1 n1 c1) now, avv a, .bool false] V fun e w' => ∃ a2 n2 c2 now2 ys, e = .returned (.tuple #[mvv c (.slice a2 n2 c2) now2, .bool true]) ∧ Bx w c a (.slice a1 n1 c1) now w' ∧ Mc w m F c now2 ys w' ∧ RN 62 w' (.slice a2 n2 c2) ys) := hid (PV.out.callP (fun F' q => look30 V m F' c now xs (.slice a1 n1 c1) a false q PV.out.rn ok))
  unfold mvv avv PT at HL
  obtain ⟨a0, a1', a2', a3', a4, a5, a6, a7, a8, b0, b1, b2, b3, b4, b5, b6, b7, b8, fA⟩ := PV.out.bx.cs
  unfold mvv avv PT
  unfold mbx abx mzx at hV
  go_enter Try.func13, Try.ntmps13
  go_upto_region 1 with fail
  rw [← hV]
  clear hV
  go_upto_region 2 with fail
  unfold kq at hq
  rw [hq]
  go_wp2_with (go_at_call 30; refine HL.out.mono ?_; rintro e w2 ⟨a2, n2, c2, now2, ys, rfl, b2', m2', r2'⟩; have B2 := hid b2'; have M2 := hid m2'; have R2 := hid r2'; have S0 := b2'.sr; clear b2' m2' r2'; obtain ⟨q0, q1, q2, q3, q4, q5, q6, q7, q8⟩ : w2.cell? ⟨w.heap.size + 1 + 1, 0, none⟩ = some (gc w2 (w.heap.size + 1 + 1) 0) ∧ w2.cell? ⟨w.heap.size + 1 + 1, 1, none⟩ = some (gc w2 (w.heap.size + 1 + 1) 1) ∧ w2.cell? ⟨w.heap.size + 1 + 1, 2, none⟩ = some (gc w2 (w.heap.size + 1 + 1) 2) ∧ w2.cell? ⟨w.heap.size + 1 + 1, 3, none⟩ = some (gc w2 (w.heap.size + 1 + 1) 3) ∧ w2.cell? ⟨w.heap.size + 1 + 1, 4, none⟩ = some (gc w2 (w.heap.size + 1 + 1) 4) ∧ w2.cell? ⟨w.heap.size + 1 + 1, 5, none⟩ = some (gc w2 (w.heap.size + 1 + 1) 5) ∧ w2.cell? ⟨w.heap.size + 1 + 1, 6, none⟩ = some (gc w2 (w.heap.size + 1 + 1) 6) ∧ w2.cell? ⟨w.heap.size + 1 + 1, 7, none⟩ = some (gc w2 (w.heap.size + 1 + 1) 7) ∧ w2.cell? ⟨w.heap.size + 1 + 1, 8, none⟩ = some (gc w2 (w.heap.size + 1 + 1) 8) := ⟨S0.cell 0 (by omega), S0.cell 1 (by omega), S0.cell 2 (by omega), S0.cell 3 (by omega), S0.cell 4 (by omega), S0.cell 5 (by omega), S0.cell 6 (by omega), S0.cell 7 (by omega), S0.cell 8 (by omega)⟩; have qf := fun i => S0.frozen i; clear S0)
  refine bodyPost_ret (v := .tuple #[.agg #[.int .i64 c.t, .int .i64 c.n, .int .i64 c.s, .int .i64 c.e, .int .i64 c.f, .int .i64 c.b, .int .i64 c.d, .slice a2 n2 c2, .int .i64 now2], .bool true]) (by simp [results, Try.results13, go_sem, q0, q1, q2, q3, q4, q5, q6, q7, q8]) rfl ?_
  exact ⟨a2, n2, c2, now2, ys, rfl, B2.out.fin M2.out R2.out (tset9 _ _ _ _ _ _ _ _ _ _ _)⟩
set_option maxHeartbeats 8000000 in
set_option maxRecDepth 100000 in
theorem act13_3 (w : World) (m : Nat) (F : List Nat) (c : Cf) (now : Int) (xs : List En) (v : Value) (a : ActM) (h : Mq w m F c now xs) (hr : RN 62 w v xs) (ok : Ok a.k) (hq : kq a = 3) : Calls Try.prog 13 #[PT m, mvv c v now, avv a] w (PlQ w m F c) := by
  obtain ⟨a1, c1, rfl, hcp1, hg1⟩ := hr
  have hr : RN 62 w (.slice a1 xs.length c1) xs := ⟨a1, c1, rfl, hcp1, hg1⟩
  have HF := hid h.lt
  obtain ⟨V, hV⟩ : ∃ V, V = ((w.alloc (mbx c (.slice a1 xs.length c1) now)).alloc (abx a)).alloc mzx := ⟨_, rfl⟩
  have TV : Touch [] w V := by rw [hV]; exact (((Touch.refl _ _).alloc _).alloc _).alloc _
  have PV : Hid (PlS w m F c a (.slice a1 xs.length c1) now now xs xs V) := hid (PlS.start h hr (by rw [hV]; exact Bx.mk' w c a _ now) TV)
  obtain ⟨n1, hn1⟩ : ∃ n1, n1 = xs.length := ⟨_, rfl⟩
  rw [← hn1] at PV hV ⊢
  have HGd := hid (And.intro h.gd (And.intro h.nd h.len))
  clear hn1 hg1 hr h TV
  have HL : Hid (Calls Try.prog 30 #[PT m, mvv c (.slice a1 n1 c1) now, avv a, .bool true] V fun e w' => ∃ a2 n2 c2 now2 ys, e = .returned (.tuple #[mvv c (.slice a2 n2 c2) now2, .bool true]) ∧ Bx w c a (.slice a1 n1 c1) now w' ∧ Mc w m F c now2 ys w' ∧ RN 62 w' (.slice a2 n2 c2) ys) := hid (PV.out.callP (fun F' q => look30 V m F' c now xs (.slice a1 n1 c1) a true q PV.out.rn ok))
  unfold mvv avv PT at HL
  obtain ⟨a0, a1', a2', a3', a4, a5, a6, a7, a8, b0, b1, b2, b3, b4, b5, b6, b7, b8, fA⟩ := PV.out.bx.cs
  unfold mvv avv PT
  unfold mbx abx mzx at hV
  go_enter Try.func13, Try.ntmps13
  go_upto_region 1 with fail
  rw [← hV]
  clear hV
  go_upto_region 2 with fail
  unfold kq at hq
  rw [hq]
  go_wp2_with (go_at_call 30; refine HL.out.mono ?_; rintro e w2 ⟨a2, n2, c2, now2, ys, rfl, b2', m2', r2'⟩; have B2 := hid b2'; have M2 := hid m2'; have R2 := hid r2'; have S0 := b2'.sr; clear b2' m2' r2'; obtain ⟨q0, q1, q2, q3, q4, q5, q6, q7, q8⟩ : w2.cell? ⟨w.heap.size + 1 + 1, 0, none⟩ = some (gc w2 (w.heap.size + 1 + 1) 0) ∧ w2.cell? ⟨w.heap.size + 1 + 1, 1, none⟩ = some (gc w2 (w.heap.size + 1 + 1) 1) ∧ w2.cell? ⟨w.heap.size + 1 + 1, 2, none⟩ = some (gc w2 (w.heap.size + 1 + 1) 2) ∧ w2.cell? ⟨w.heap.size + 1 + 1, 3, none⟩ = some (gc w2 (w.heap.size + 1 + 1) 3) ∧ w2.cell? ⟨w.heap.size + 1 + 1, 4, none⟩ = some (gc w2 (w.heap.size + 1 + 1) 4) ∧ w2.cell? ⟨w.heap.size + 1 + 1, 5, none⟩ = some (gc w2 (w.heap.size + 1 + 1) 5) ∧ w2.cell? ⟨w.heap.size + 1 + 1, 6, none⟩ = some (gc w2 (w.heap.size + 1 + 1) 6) ∧ w2.cell? ⟨w.heap.size + 1 + 1, 7, none⟩ = some (gc w2 (w.heap.size + 1 + 1) 7) ∧ w2.cell? ⟨w.heap.size + 1 + 1, 8, none⟩ = some (gc w2 (w.heap.size + 1 + 1) 8) := ⟨S0.cell 0 (by omega), S0.cell 1 (by omega), S0.cell 2 (by omega), S0.cell 3 (by omega), S0.cell 4 (by omega), S0.cell 5 (by omega), S0.cell 6 (by omega), S0.cell 7 (by omega), S0.cell 8 (by omega)⟩; have qf := fun i => S0.frozen i; clear S0)
  refine bodyPost_ret (v := .tuple #[.agg #[.int .i64 c.t, .int .i64 c.n, .int .i64 c.s, .int .i64 c.e, .int .i64 c.f, .int .i64 c.b, .int .i64 c.d, .slice a2 n2 c2, .int .i64 now2], .bool true]) (by simp [results, Try.results13, go_sem, q0, q1, q2, q3, q4, q5, q6, q7, q8]) rfl ?_
  exact ⟨a2, n2, c2, now2, ys, rfl, B2.out.fin M2.out R2.out (tset9 _ _ _ _ _ _ _ _ _ _ _)⟩
set_option maxHeartbeats 8000000 in
set_option maxRecDepth 100000 in
theorem act13_x (w : World) (m : Nat) (F : List Nat) (c : Cf) (now : Int) (xs : List En) (v : Value) (a : ActM) (h : Mq w m F c now xs) (hr : RN 62 w v xs) (ok : Ok a.k) (g2 : (kq a == 2) = false) (g3 : (kq a == 3) = false) (g4 : (kq a == 4) = false) (g5 : (kq a == 5) = false) (g6 : (kq a == 6) = false) : Calls Try.prog 13 #[PT m, mvv c v now, avv a] w (PlQ w m F c) := by
  obtain ⟨a1, c1, rfl, hcp1, hg1⟩ := hr
  have hr : RN 62 w (.slice a1 xs.length c1) xs := ⟨a1, c1, rfl, hcp1, hg1⟩
  have HF := hid h.lt
  obtain ⟨V, hV⟩ : ∃ V, V = ((w.alloc (mbx c (.slice a1 xs.length c1) now)).alloc (abx a)).alloc mzx := ⟨_, rfl⟩
  have TV : Touch [] w V := by rw [hV]; exact (((Touch.refl _ _).alloc _).alloc _).alloc _
  have PV : Hid (PlS w m F c a (.slice a1 xs.length c1) now now xs xs V) := hid (PlS.start h hr (by rw [hV]; exact Bx.mk' w c a _ now) TV)
  obtain ⟨n1, hn1⟩ : ∃ n1, n1 = xs.length := ⟨_, rfl⟩
  rw [← hn1] at PV hV ⊢
  have HGd := hid (And.intro h.gd (And.intro h.nd h.len))
  clear hn1 hg1 hr h TV
  have HL : Hid (Calls Try.prog 38 #[PT m, mvv c (.slice a1 n1 c1) now, avv a] V fun e w' => ∃ a2 n2 c2 now2 ys, e = .returned (.tuple #[mvv c (.slice a2 n2 c2) now2, .bool true]) ∧ Bx w c a (.slice a1 n1 c1) now w' ∧ Mc w m F c now2 ys w' ∧ RN 62 w' (.slice a2 n2 c2) ys) := hid (PV.out.callP (fun F' q => keep38 V m F' c now xs (.slice a1 n1 c1) a q PV.out.rn ok))
  unfold mvv avv PT at HL
  obtain ⟨a0, a1', a2', a3', a4, a5, a6, a7, a8, b0, b1, b2, b3, b4, b5, b6, b7, b8, fA⟩ := PV.out.bx.cs
  unfold mvv avv PT
  unfold mbx abx mzx at hV
  go_enter Try.func13, Try.ntmps13
  go_upto_region 1 with fail
  rw [← hV]
  clear hV
  go_upto_region 2 with fail
  rw [show (wrap64 (a.kd.tmod 7 + 7)).tmod 7 = kq a from rfl]
  generalize kq a = qq at g2 g3 g4 g5 g6 ⊢
  go_wp2_with (go_at_call 38; refine HL.out.mono ?_; rintro e w2 ⟨a2, n2, c2, now2, ys, rfl, b2', m2', r2'⟩; have B2 := hid b2'; have M2 := hid m2'; have R2 := hid r2'; have S0 := b2'.sr; clear b2' m2' r2'; obtain ⟨q0, q1, q2, q3, q4, q5, q6, q7, q8⟩ : w2.cell? ⟨w.heap.size + 1 + 1, 0, none⟩ = some (gc w2 (w.heap.size + 1 + 1) 0) ∧ w2.cell? ⟨w.heap.size + 1 + 1, 1, none⟩ = some (gc w2 (w.heap.size + 1 + 1) 1) ∧ w2.cell? ⟨w.heap.size + 1 + 1, 2, none⟩ = some (gc w2 (w.heap.size + 1 + 1) 2) ∧ w2.cell? ⟨w.heap.size + 1 + 1, 3, none⟩ = some (gc w2 (w.heap.size + 1 + 1) 3) ∧ w2.cell? ⟨w.heap.size + 1 + 1, 4, none⟩ = some (gc w2 (w.heap.size + 1 + 1) 4) ∧ w2.cell? ⟨w.heap.size + 1 + 1, 5, none⟩ = some (gc w2 (w.heap.size + 1 + 1) 5) ∧ w2.cell? ⟨w.heap.size + 1 + 1, 6, none⟩ = some (gc w2 (w.heap.size + 1 + 1) 6) ∧ w2.cell? ⟨w.heap.size + 1 + 1, 7, none⟩ = some (gc w2 (w.heap.size + 1 + 1) 7) ∧ w2.cell? ⟨w.heap.size + 1 + 1, 8, none⟩ = some (gc w2 (w.heap.size + 1 + 1) 8) := ⟨S0.cell 0 (by omega), S0.cell 1 (by omega), S0.cell 2 (by omega), S0.cell 3 (by omega), S0.cell 4 (by omega), S0.cell 5 (by omega), S0.cell 6 (by omega), S0.cell 7 (by omega), S0.cell 8 (by omega)⟩; have qf := fun i => S0.frozen i; clear S0)
  refine bodyPost_ret (v := .tuple #[.agg #[.int .i64 c.t, .int .i64 c.n, .int .i64 c.s, .int .i64 c.e, .int .i64 c.f, .int .i64 c.b, .int .i64 c.d, .slice a2 n2 c2, .int .i64 now2], .bool true]) (by simp [results, Try.results13, go_sem, q0, q1, q2, q3, q4, q5, q6, q7, q8]) rfl ?_
  exact ⟨a2, n2, c2, now2, ys, rfl, B2.out.fin M2.out R2.out (tset9 _ _ _ _ _ _ _ _ _ _ _)⟩
end Go.Proofs.Ytopepalpmkeffaa
/- The law's act: the kind that drops; no conditions but those that it states. -/
namespace Go.Proofs.Ytopepalpmkeffaa
open Go.RowKit Go.Sort Go.Maps Go.ChangeMaps Go.WideMaps
set_option linter.unusedVariables false
set_option linter.unusedSimpArgs false
theorem drx_no {xs : List En} {k : K} (h : ¬ k ∈ keysL xs) : drx xs k = xs := by
  unfold drx
  refine List.filter_eq_self.2 (fun x hx => ?_)
  simp only [decide_eq_true_eq]
  exact fun e => h (by unfold keysL; exact List.mem_map.2 ⟨x, hx, e⟩)
set_option maxHeartbeats 8000000 in
set_option maxRecDepth 100000 in
theorem act13_4 (w : World) (m : Nat) (F : List Nat) (c : Cf) (now : Int) (xs : List En) (v : Value) (a : ActM) (h : Mq w m F c now xs) (hr : RN 62 w v xs) (ok : Ok a.k) (hq : kq a = 4) : Calls Try.prog 13 #[PT m, mvv c v now, avv a] w (PlQ w m F c) := by
  obtain ⟨a1, c1, rfl, hcp1, hg1⟩ := hr
  have hr : RN 62 w (.slice a1 xs.length c1) xs := ⟨a1, c1, rfl, hcp1, hg1⟩
  have HF := hid h.lt
  obtain ⟨V, hV⟩ : ∃ V, V = ((w.alloc (mbx c (.slice a1 xs.length c1) now)).alloc (abx a)).alloc mzx := ⟨_, rfl⟩
  have TV : Touch [] w V := by rw [hV]; exact (((Touch.refl _ _).alloc _).alloc _).alloc _
  have PV : Hid (PlS w m F c a (.slice a1 xs.length c1) now now xs xs V) := hid (PlS.start h hr (by rw [hV]; exact Bx.mk' w c a _ now) TV)
  obtain ⟨n1, hn1⟩ : ∃ n1, n1 = xs.length := ⟨_, rfl⟩
  rw [← hn1] at PV hV ⊢
  have HGd := hid (And.intro h.gd (And.intro h.nd h.len))
  clear hn1 hg1 hr h TV
  have HK := hid (fun w => key32 w a.k)
  unfold kv at HK
  obtain ⟨ps, hps⟩ : ∃ ps, ps = pos xs a.k := ⟨_, rfl⟩
  have HFd : Hid (∀ w', Touch [] V w' → Calls Try.prog 31 #[.slice a1 n1 c1, .agg #[.int .u16 a.k.1, .string a.k.2]] w' fun e w'' => e = .returned (.int .i64 ps) ∧ Touch [] V w'') := hid (fun w' t => (find31 w' (.slice a1 n1 c1) xs a.k (by have := HGd.out.2.2; omega) (PV.out.rn.keep t)).mono (by
    rintro e w'' ⟨rfl, t2⟩
    rw [hps]
    exact ⟨rfl, t.trans' t2⟩))
  have HPs := hid hps
  clear hps
  obtain ⟨a0, a1', a2', a3', a4, a5, a6, a7, a8, b0, b1, b2, b3, b4, b5, b6, b7, b8, fA⟩ := PV.out.bx.cs
  unfold mvv avv PT
  unfold mbx abx mzx at hV
  go_enter Try.func13, Try.ntmps13
  go_upto_region 1 with fail
  rw [← hV]
  clear hV
  go_upto_region 2 with fail
  unfold kq at hq
  rw [hq]
  clear a0 a1' a2' a3' a4 a5 a6 a7 a8 b0 b1 b2 b3 b4 b5 b6 b7 b8 fA
  go_upto_region 7 with fail
  have sA0 : ∀ w', Touch [] V w' → w'.cell? ⟨w.heap.size, 0, none⟩ = some (.int .i64 c.t) := fun w' s => (PV.out.bx.keep0 s).cs.a0
  have sA1 : ∀ w', Touch [] V w' → w'.cell? ⟨w.heap.size, 1, none⟩ = some (.int .i64 c.n) := fun w' s => (PV.out.bx.keep0 s).cs.a1
  have sA2 : ∀ w', Touch [] V w' → w'.cell? ⟨w.heap.size, 2, none⟩ = some (.int .i64 c.s) := fun w' s => (PV.out.bx.keep0 s).cs.a2
  have sA3 : ∀ w', Touch [] V w' → w'.cell? ⟨w.heap.size, 3, none⟩ = some (.int .i64 c.e) := fun w' s => (PV.out.bx.keep0 s).cs.a3
  have sA4 : ∀ w', Touch [] V w' → w'.cell? ⟨w.heap.size, 4, none⟩ = some (.int .i64 c.f) := fun w' s => (PV.out.bx.keep0 s).cs.a4
  have sA5 : ∀ w', Touch [] V w' → w'.cell? ⟨w.heap.size, 5, none⟩ = some (.int .i64 c.b) := fun w' s => (PV.out.bx.keep0 s).cs.a5
  have sA6 : ∀ w', Touch [] V w' → w'.cell? ⟨w.heap.size, 6, none⟩ = some (.int .i64 c.d) := fun w' s => (PV.out.bx.keep0 s).cs.a6
  have sA7 : ∀ w', Touch [] V w' → w'.cell? ⟨w.heap.size, 7, none⟩ = some (.slice a1 n1 c1) := fun w' s => (PV.out.bx.keep0 s).cs.a7
  have sA8 : ∀ w', Touch [] V w' → w'.cell? ⟨w.heap.size, 8, none⟩ = some (.int .i64 now) := fun w' s => (PV.out.bx.keep0 s).cs.a8
  have sB3 : ∀ w', Touch [] V w' → w'.cell? ⟨w.heap.size + 1, 3, none⟩ = some (.int .u16 a.k.1) := fun w' s => (PV.out.bx.keep0 s).cs.b3
  have sB4 : ∀ w', Touch [] V w' → w'.cell? ⟨w.heap.size + 1, 4, none⟩ = some (.string a.k.2) := fun w' s => (PV.out.bx.keep0 s).cs.b4
  have s0 : Touch [] V V.drew := (Touch.refl _ _).drew
  refine wp_region_H (S := fun w' => Touch [] V w') (by kernel_rfl) ?_
  refine wpH_take (i := 0) (v := (.pointer (some ⟨w.heap.size, 7, none⟩))) (some 39) rfl rfl (by kernel_rfl) (by kernel_rfl) (by kernel_rfl) (fun _ _ _ h => h) (Or.inl ⟨by rfl, fun w' hS => (by go_simp)⟩) s0 ?_
  try simp only [Go.Act.put, List.setIfInBounds_toArray, List.set_cons_zero, List.set_cons_succ]
  refine wpH_take (i := 1) (v := (.slice a1 n1 c1)) (some 40) rfl rfl (by kernel_rfl) (by kernel_rfl) (by kernel_rfl) (fun _ _ _ h => h) (Or.inl ⟨by rfl, fun w' hS => (by have z0 := sA7 _ hS; go_simp)⟩) s0 ?_
  try simp only [Go.Act.put, List.setIfInBounds_toArray, List.set_cons_zero, List.set_cons_succ]
  refine wpH_take (i := 2) (v := (.pointer (some ⟨w.heap.size + 1, 3, none⟩))) (some 41) rfl rfl (by kernel_rfl) (by kernel_rfl) (by kernel_rfl) (fun _ _ _ h => h) (Or.inl ⟨by rfl, fun w' hS => (by go_simp)⟩) s0 ?_
  try simp only [Go.Act.put, List.setIfInBounds_toArray, List.set_cons_zero, List.set_cons_succ]
  refine wpH_take (i := 3) (v := (.agg #[.int .u16 a.k.1, .string a.k.2])) (some 42) rfl rfl (by kernel_rfl) (by kernel_rfl) (by kernel_rfl) (fun _ _ _ h => h) (Or.inl ⟨by rfl, fun w' hS => (by have z0 := sB3 _ hS; have z1 := sB4 _ hS; go_simp)⟩) s0 ?_
  try simp only [Go.Act.put, List.setIfInBounds_toArray, List.set_cons_zero, List.set_cons_succ]
  refine wpH_call (i := 4) (o := { dst := some 43, op := Op.call { callee := Callee.value (Operand.func 32), args := #[Operand.tmp 42], argTypes := #[39] }, type := 57, pos := _, after := #[{ on := 3, ground := Ground.data }], guard := none }) (by kernel_rfl) rfl (fun K' hK => ?_)
  rw [if_pos (by rfl)]
  go_simp
  refine (HK.out _).mono ?_
  rintro e w2 ⟨rfl, t2⟩
  have s1 : Touch [] V w2 := s0.trans' t2
  clear t2
  refine hK.out _ _ s1 ?_
  clear hK
  try simp only [Go.Act.put, List.setIfInBounds_toArray, List.set_cons_zero, List.set_cons_succ]
  refine wpH_call (i := 5) (o := { dst := some 44, op := Op.call { callee := Callee.value (Operand.func 31), args := #[Operand.tmp 40, Operand.tmp 43], argTypes := #[34, 57] }, type := 3, pos := _, after := #[{ on := 1, ground := Ground.data }, { on := 4, ground := Ground.data }, { on := 4, ground := Ground.chain }], guard := none }) (by kernel_rfl) rfl (fun K' hK => ?_)
  rw [if_pos (by rfl)]
  go_simp
  refine (HFd.out _ s1).mono ?_
  rintro e w3 ⟨rfl, s2⟩
  refine hK.out _ _ s2 ?_
  clear hK
  try simp only [Go.Act.put, List.setIfInBounds_toArray, List.set_cons_zero, List.set_cons_succ]
  refine wpH_take (i := 6) (v := (.int .i64 ps)) (some 8) rfl rfl (by kernel_rfl) (by kernel_rfl) (by kernel_rfl) (fun _ _ _ h => h) (Or.inl ⟨by rfl, fun w' hS => (by go_simp)⟩) s2 ?_
  try simp only [Go.Act.put, List.setIfInBounds_toArray, List.set_cons_zero, List.set_cons_succ]
  refine wpAnyH_done (by kernel_rfl) ?_ _
  have P3 := hid (PV.out.keep0 s2)
  clear sA0 sA1 sA2 sA3 sA4 sA5 sA6 sA7 sA8 sB3 sB4 s0 s1 s2 PV
  by_cases hm : a.k ∈ keysL xs
  · obtain ⟨i, hi, h1, h2, h3⟩ := pos_yes hm
    obtain rfl : ps = (i : Int) := by rw [HPs.out]; exact h3
    have HWo : Hid (Calls Try.prog 33 #[.slice a1 n1 c1, .int .i64 (i : Int)] w3 fun e w' => ∃ a2 n2 c2, e = .returned (.slice a2 n2 c2) ∧ RN 62 w' (.slice a2 n2 c2) (drx xs a.k) ∧ Touch [] w3 w') := hid ((without33 w3 _ xs i hi (by have := HGd.out.2.2; omega) P3.out.rn).mono (by
      rintro z w' ⟨v', rfl, o, t⟩
      have r : RN 62 w' v' (drx xs a.k) := RN.own (base := w3.heap.size) (by
        rw [← erase_drx hi h1 HGd.out.2.1, List.length_eraseIdx_of_lt hi]
        exact o)
      obtain ⟨a2, c2, rfl, k1, k2⟩ := r
      exact ⟨a2, _, c2, rfl, ⟨a2, c2, rfl, k1, k2⟩, t⟩))
    have hhs := hs_yes hm
    have zi : (0 : Int) ≤ (i : Int) := by omega
    have a7 := P3.out.bx.cs.a7
    clear hi h1 h2 h3 hm HPs HFd
    go_upto_region 10 with (go_at_call 33; refine HWo.out.mono ?_; rintro e w4 ⟨a2, n2, c2, rfl, r4, t4⟩; have P4 := hid (P3.out.keep0 t4); have R4 := hid r4; have k7 : w4.cell? ⟨w.heap.size, 7, none⟩ = some (.slice a1 n1 c1) := (P3.out.keep0 t4).bx.cs.a7; have kf : w4.frozen? ⟨w.heap.size, 7, none⟩ = false := (P3.out.keep0 t4).bx.cs.fA 7; clear r4 t4)
    obtain ⟨W5, hW5⟩ : ∃ W5, W5 = w4.setCell ⟨w.heap.size, 7, none⟩ (.slice a2 n2 c2) := ⟨_, rfl⟩
    have PX : Hid (PlS w m F c a (.slice a2 n2 c2) now now (drx xs a.k) xs W5) := hid (by rw [hW5]; exact P4.out.set7 HF.out R4.out)
    rw [← hW5]
    clear hW5 a7 k7 kf HWo
    have HDr : Hid (Calls Try.prog 25 #[.pointer (some ⟨m, 0, none⟩), .agg #[.int .u16 a.k.1, .string a.k.2]] W5.drew fun e w' => e = .returned (.bool true) ∧ PlS w m F c a (.slice a2 n2 c2) now now (drx xs a.k) (drx xs a.k) w') := hid ((PX.out.keep0 (Touch.refl _ _).drew).call (Q := fun e w' => e = .returned (.bool true)) (N := fun _ => now) (Y := fun _ => drx xs a.k) (fun F' q => by
      have := dropM W5.drew m F' c now xs q a.k ok
      rw [hhs] at this
      exact this))
    clear hhs
    have cA0 : ∀ w', Bx w c a (.slice a2 n2 c2) now w' → w'.cell? ⟨w.heap.size, 0, none⟩ = some (.int .i64 c.t) := fun w' s => s.cs.a0
    have cA1 : ∀ w', Bx w c a (.slice a2 n2 c2) now w' → w'.cell? ⟨w.heap.size, 1, none⟩ = some (.int .i64 c.n) := fun w' s => s.cs.a1
    have cA2 : ∀ w', Bx w c a (.slice a2 n2 c2) now w' → w'.cell? ⟨w.heap.size, 2, none⟩ = some (.int .i64 c.s) := fun w' s => s.cs.a2
    have cA3 : ∀ w', Bx w c a (.slice a2 n2 c2) now w' → w'.cell? ⟨w.heap.size, 3, none⟩ = some (.int .i64 c.e) := fun w' s => s.cs.a3
    have cA4 : ∀ w', Bx w c a (.slice a2 n2 c2) now w' → w'.cell? ⟨w.heap.size, 4, none⟩ = some (.int .i64 c.f) := fun w' s => s.cs.a4
    have cA5 : ∀ w', Bx w c a (.slice a2 n2 c2) now w' → w'.cell? ⟨w.heap.size, 5, none⟩ = some (.int .i64 c.b) := fun w' s => s.cs.a5
    have cA6 : ∀ w', Bx w c a (.slice a2 n2 c2) now w' → w'.cell? ⟨w.heap.size, 6, none⟩ = some (.int .i64 c.d) := fun w' s => s.cs.a6
    have cA7 : ∀ w', Bx w c a (.slice a2 n2 c2) now w' → w'.cell? ⟨w.heap.size, 7, none⟩ = some (.slice a2 n2 c2) := fun w' s => s.cs.a7
    have cA8 : ∀ w', Bx w c a (.slice a2 n2 c2) now w' → w'.cell? ⟨w.heap.size, 8, none⟩ = some (.int .i64 now) := fun w' s => s.cs.a8
    have cB3 : ∀ w', Bx w c a (.slice a2 n2 c2) now w' → w'.cell? ⟨w.heap.size + 1, 3, none⟩ = some (.int .u16 a.k.1) := fun w' s => s.cs.b3
    have cB4 : ∀ w', Bx w c a (.slice a2 n2 c2) now w' → w'.cell? ⟨w.heap.size + 1, 4, none⟩ = some (.string a.k.2) := fun w' s => s.cs.b4
    have s0 := PX.out.bx.keep0 (Touch.refl _ _).drew
    refine wp_region_H (S := fun w' => Bx w c a (.slice a2 n2 c2) now w') (by kernel_rfl) ?_
    refine wpH_take (i := 0) (v := (.agg #[.int .i64 c.t, .int .i64 c.n, .int .i64 c.s, .int .i64 c.e, .int .i64 c.f, .int .i64 c.b, .int .i64 c.d, .slice a2 n2 c2, .int .i64 now])) (some 52) rfl rfl (by kernel_rfl) (by kernel_rfl) (by kernel_rfl) (fun _ _ _ h => h) (Or.inl ⟨by rfl, fun w' hS => (by have z0 := cA0 _ hS; have z1 := cA1 _ hS; have z2 := cA2 _ hS; have z3 := cA3 _ hS; have z4 := cA4 _ hS; have z5 := cA5 _ hS; have z6 := cA6 _ hS; have z7 := cA7 _ hS; have z8 := cA8 _ hS; go_simp)⟩) s0 ?_
    try simp only [Go.Act.put, List.setIfInBounds_toArray, List.set_cons_zero, List.set_cons_succ]
    refine wpH_take (i := 1) (v := (.pointer (some ⟨m, 0, none⟩))) (some 53) rfl rfl (by kernel_rfl) (by kernel_rfl) (by kernel_rfl) (fun _ _ _ h => h) (Or.inl ⟨by rfl, fun w' hS => (by go_simp)⟩) s0 ?_
    try simp only [Go.Act.put, List.setIfInBounds_toArray, List.set_cons_zero, List.set_cons_succ]
    refine wpH_take (i := 2) (v := (.pointer (some ⟨w.heap.size + 1, 3, none⟩))) (some 54) rfl rfl (by kernel_rfl) (by kernel_rfl) (by kernel_rfl) (fun _ _ _ h => h) (Or.inl ⟨by rfl, fun w' hS => (by go_simp)⟩) s0 ?_
    try simp only [Go.Act.put, List.setIfInBounds_toArray, List.set_cons_zero, List.set_cons_succ]
    refine wpH_take (i := 3) (v := (.agg #[.int .u16 a.k.1, .string a.k.2])) (some 55) rfl rfl (by kernel_rfl) (by kernel_rfl) (by kernel_rfl) (fun _ _ _ h => h) (Or.inl ⟨by rfl, fun w' hS => (by have z0 := cB3 _ hS; have z1 := cB4 _ hS; go_simp)⟩) s0 ?_
    try simp only [Go.Act.put, List.setIfInBounds_toArray, List.set_cons_zero, List.set_cons_succ]
    refine wpH_take (i := 5) (v := (.int .i64 (i : Int))) (some 57) rfl rfl (by kernel_rfl) (by kernel_rfl) (by kernel_rfl) (fun _ _ _ h => h) (Or.inl ⟨by rfl, fun w' hS => (by go_simp)⟩) s0 ?_
    try simp only [Go.Act.put, List.setIfInBounds_toArray, List.set_cons_zero, List.set_cons_succ]
    refine wpH_take (i := 6) (v := (.bool true)) (some 58) rfl rfl (by kernel_rfl) (by kernel_rfl) (by kernel_rfl) (fun _ _ _ h => h) (Or.inl ⟨by rfl, fun w' hS => (by go_simp)⟩) s0 ?_
    try simp only [Go.Act.put, List.setIfInBounds_toArray, List.set_cons_zero, List.set_cons_succ]
    refine wpH_call (i := 4) (o := { dst := some 56, op := Op.call { callee := Callee.value (Operand.func 25), args := #[Operand.tmp 53, Operand.tmp 55], argTypes := #[26, 39] }, type := 4, pos := _, after := #[{ on := 1, ground := Ground.data }, { on := 3, ground := Ground.data }], guard := none }) (by kernel_rfl) rfl (fun K' hK => ?_)
    rw [if_pos (by rfl)]
    go_simp
    refine HDr.out.mono ?_
    rintro e w8 ⟨rfl, p8⟩
    have P8 := hid p8
    have s1 := p8.bx
    have S0 := s1.sr
    clear p8
    obtain ⟨q0, q1, q2, q3, q4, q5, q6, q7, q8⟩ : w8.cell? ⟨w.heap.size + 1 + 1, 0, none⟩ = some (gc w8 (w.heap.size + 1 + 1) 0) ∧ w8.cell? ⟨w.heap.size + 1 + 1, 1, none⟩ = some (gc w8 (w.heap.size + 1 + 1) 1) ∧ w8.cell? ⟨w.heap.size + 1 + 1, 2, none⟩ = some (gc w8 (w.heap.size + 1 + 1) 2) ∧ w8.cell? ⟨w.heap.size + 1 + 1, 3, none⟩ = some (gc w8 (w.heap.size + 1 + 1) 3) ∧ w8.cell? ⟨w.heap.size + 1 + 1, 4, none⟩ = some (gc w8 (w.heap.size + 1 + 1) 4) ∧ w8.cell? ⟨w.heap.size + 1 + 1, 5, none⟩ = some (gc w8 (w.heap.size + 1 + 1) 5) ∧ w8.cell? ⟨w.heap.size + 1 + 1, 6, none⟩ = some (gc w8 (w.heap.size + 1 + 1) 6) ∧ w8.cell? ⟨w.heap.size + 1 + 1, 7, none⟩ = some (gc w8 (w.heap.size + 1 + 1) 7) ∧ w8.cell? ⟨w.heap.size + 1 + 1, 8, none⟩ = some (gc w8 (w.heap.size + 1 + 1) 8) := ⟨S0.cell 0 (by omega), S0.cell 1 (by omega), S0.cell 2 (by omega), S0.cell 3 (by omega), S0.cell 4 (by omega), S0.cell 5 (by omega), S0.cell 6 (by omega), S0.cell 7 (by omega), S0.cell 8 (by omega)⟩
    have qf := fun i => S0.frozen i
    clear S0
    refine hK.out _ _ s1 ?_
    clear hK
    try simp only [Go.Act.put, List.setIfInBounds_toArray, List.set_cons_zero, List.set_cons_succ]
    refine wpH_take (i := 7) (v := (.bool true)) (some 59) rfl rfl (by kernel_rfl) (by kernel_rfl) (by kernel_rfl) (fun _ _ _ h => h) (Or.inl ⟨by rfl, fun w' hS => (by go_simp)⟩) s1 ?_
    try simp only [Go.Act.put, List.setIfInBounds_toArray, List.set_cons_zero, List.set_cons_succ]
    refine wpH_call (i := 8) (o := { dst := none, op := Op.store 36 (Operand.tmp 6) (Operand.tmp 52), type := 0, pos := _, after := #[{ on := 0, ground := Ground.data }, { on := 4, ground := Ground.chain }, { on := 0, ground := Ground.phase }, { on := 1, ground := Ground.textOnly Departure.lateStores }, { on := 2, ground := Ground.textOnly Departure.lateStores }, { on := 3, ground := Ground.textOnly Departure.lateStores }, { on := 4, ground := Ground.textOnly Departure.lateStoresUnsure }, { on := 5, ground := Ground.textOnly Departure.lateStores }, { on := 6, ground := Ground.textOnly Departure.lateStores }, { on := 7, ground := Ground.textOnly Departure.lateStores }], guard := none }) (by kernel_rfl) rfl (fun K' hK => ?_)
    rw [if_pos (by rfl)]
    go_simp
    refine hK.out _ _ (Bx.s9 s1 _ _ _ _ _ _ _ _ _) ?_
    clear hK
    try simp only [Go.Act.put, List.setIfInBounds_toArray, List.set_cons_zero, List.set_cons_succ]
    refine wpH_take (i := 9) (v := (.bool true)) (some 7) rfl rfl (by kernel_rfl) (by kernel_rfl) (by kernel_rfl) (fun _ _ _ h => h) (Or.inl ⟨by rfl, fun w' hS => (by go_simp)⟩) (Bx.s9 s1 _ _ _ _ _ _ _ _ _) ?_
    try simp only [Go.Act.put, List.setIfInBounds_toArray, List.set_cons_zero, List.set_cons_succ]
    refine wpAnyH_done (by kernel_rfl) ?_ _
    clear cA0 cA1 cA2 cA3 cA4 cA5 cA6 cA7 cA8 cB3 cB4 s0 s1 qf
    go_wp2
    refine bodyPost_ret (v := .tuple #[.agg #[.int .i64 c.t, .int .i64 c.n, .int .i64 c.s, .int .i64 c.e, .int .i64 c.f, .int .i64 c.b, .int .i64 c.d, .slice a2 n2 c2, .int .i64 now], .bool true]) (by simp [results, Try.results13, go_sem, q0, q1, q2, q3, q4, q5, q6, q7, q8]) rfl ?_
    exact ⟨a2, n2, c2, now, _, rfl, P8.out.fin HF.out (tset9 _ _ _ _ _ _ _ _ _ _ _)⟩
  · obtain rfl : ps = -1 := by rw [HPs.out]; exact pos_no hm
    have hhs := hs_no hm
    have hdx := drx_no hm
    have PX := P3
    clear hm HPs HFd P3
    go_upto_region 10 with fail
    have HDr : Hid (Calls Try.prog 25 #[.pointer (some ⟨m, 0, none⟩), .agg #[.int .u16 a.k.1, .string a.k.2]] w3.drew fun e w' => e = .returned (.bool false) ∧ PlS w m F c a (.slice a1 n1 c1) now now xs xs w') := hid ((PX.out.keep0 (Touch.refl _ _).drew).call (Q := fun e w' => e = .returned (.bool false)) (N := fun _ => now) (Y := fun _ => xs) (fun F' q => by
      have := dropM w3.drew m F' c now xs q a.k ok
      rw [hhs, hdx] at this
      exact this))
    clear hhs hdx
    have cA0 : ∀ w', Bx w c a (.slice a1 n1 c1) now w' → w'.cell? ⟨w.heap.size, 0, none⟩ = some (.int .i64 c.t) := fun w' s => s.cs.a0
    have cA1 : ∀ w', Bx w c a (.slice a1 n1 c1) now w' → w'.cell? ⟨w.heap.size, 1, none⟩ = some (.int .i64 c.n) := fun w' s => s.cs.a1
    have cA2 : ∀ w', Bx w c a (.slice a1 n1 c1) now w' → w'.cell? ⟨w.heap.size, 2, none⟩ = some (.int .i64 c.s) := fun w' s => s.cs.a2
    have cA3 : ∀ w', Bx w c a (.slice a1 n1 c1) now w' → w'.cell? ⟨w.heap.size, 3, none⟩ = some (.int .i64 c.e) := fun w' s => s.cs.a3
    have cA4 : ∀ w', Bx w c a (.slice a1 n1 c1) now w' → w'.cell? ⟨w.heap.size, 4, none⟩ = some (.int .i64 c.f) := fun w' s => s.cs.a4
    have cA5 : ∀ w', Bx w c a (.slice a1 n1 c1) now w' → w'.cell? ⟨w.heap.size, 5, none⟩ = some (.int .i64 c.b) := fun w' s => s.cs.a5
    have cA6 : ∀ w', Bx w c a (.slice a1 n1 c1) now w' → w'.cell? ⟨w.heap.size, 6, none⟩ = some (.int .i64 c.d) := fun w' s => s.cs.a6
    have cA7 : ∀ w', Bx w c a (.slice a1 n1 c1) now w' → w'.cell? ⟨w.heap.size, 7, none⟩ = some (.slice a1 n1 c1) := fun w' s => s.cs.a7
    have cA8 : ∀ w', Bx w c a (.slice a1 n1 c1) now w' → w'.cell? ⟨w.heap.size, 8, none⟩ = some (.int .i64 now) := fun w' s => s.cs.a8
    have cB3 : ∀ w', Bx w c a (.slice a1 n1 c1) now w' → w'.cell? ⟨w.heap.size + 1, 3, none⟩ = some (.int .u16 a.k.1) := fun w' s => s.cs.b3
    have cB4 : ∀ w', Bx w c a (.slice a1 n1 c1) now w' → w'.cell? ⟨w.heap.size + 1, 4, none⟩ = some (.string a.k.2) := fun w' s => s.cs.b4
    have s0 := PX.out.bx.keep0 (Touch.refl _ _).drew
    refine wp_region_H (S := fun w' => Bx w c a (.slice a1 n1 c1) now w') (by kernel_rfl) ?_
    refine wpH_take (i := 0) (v := (.agg #[.int .i64 c.t, .int .i64 c.n, .int .i64 c.s, .int .i64 c.e, .int .i64 c.f, .int .i64 c.b, .int .i64 c.d, .slice a1 n1 c1, .int .i64 now])) (some 52) rfl rfl (by kernel_rfl) (by kernel_rfl) (by kernel_rfl) (fun _ _ _ h => h) (Or.inl ⟨by rfl, fun w' hS => (by have z0 := cA0 _ hS; have z1 := cA1 _ hS; have z2 := cA2 _ hS; have z3 := cA3 _ hS; have z4 := cA4 _ hS; have z5 := cA5 _ hS; have z6 := cA6 _ hS; have z7 := cA7 _ hS; have z8 := cA8 _ hS; go_simp)⟩) s0 ?_
    try simp only [Go.Act.put, List.setIfInBounds_toArray, List.set_cons_zero, List.set_cons_succ]
    refine wpH_take (i := 1) (v := (.pointer (some ⟨m, 0, none⟩))) (some 53) rfl rfl (by kernel_rfl) (by kernel_rfl) (by kernel_rfl) (fun _ _ _ h => h) (Or.inl ⟨by rfl, fun w' hS => (by go_simp)⟩) s0 ?_
    try simp only [Go.Act.put, List.setIfInBounds_toArray, List.set_cons_zero, List.set_cons_succ]
    refine wpH_take (i := 2) (v := (.pointer (some ⟨w.heap.size + 1, 3, none⟩))) (some 54) rfl rfl (by kernel_rfl) (by kernel_rfl) (by kernel_rfl) (fun _ _ _ h => h) (Or.inl ⟨by rfl, fun w' hS => (by go_simp)⟩) s0 ?_
    try simp only [Go.Act.put, List.setIfInBounds_toArray, List.set_cons_zero, List.set_cons_succ]
    refine wpH_take (i := 3) (v := (.agg #[.int .u16 a.k.1, .string a.k.2])) (some 55) rfl rfl (by kernel_rfl) (by kernel_rfl) (by kernel_rfl) (fun _ _ _ h => h) (Or.inl ⟨by rfl, fun w' hS => (by have z0 := cB3 _ hS; have z1 := cB4 _ hS; go_simp)⟩) s0 ?_
    try simp only [Go.Act.put, List.setIfInBounds_toArray, List.set_cons_zero, List.set_cons_succ]
    refine wpH_take (i := 5) (v := (.int .i64 (-1))) (some 57) rfl rfl (by kernel_rfl) (by kernel_rfl) (by kernel_rfl) (fun _ _ _ h => h) (Or.inl ⟨by rfl, fun w' hS => (by go_simp)⟩) s0 ?_
    try simp only [Go.Act.put, List.setIfInBounds_toArray, List.set_cons_zero, List.set_cons_succ]
    refine wpH_take (i := 6) (v := (.bool false)) (some 58) rfl rfl (by kernel_rfl) (by kernel_rfl) (by kernel_rfl) (fun _ _ _ h => h) (Or.inl ⟨by rfl, fun w' hS => (by go_simp)⟩) s0 ?_
    try simp only [Go.Act.put, List.setIfInBounds_toArray, List.set_cons_zero, List.set_cons_succ]
    refine wpH_call (i := 4) (o := { dst := some 56, op := Op.call { callee := Callee.value (Operand.func 25), args := #[Operand.tmp 53, Operand.tmp 55], argTypes := #[26, 39] }, type := 4, pos := _, after := #[{ on := 1, ground := Ground.data }, { on := 3, ground := Ground.data }], guard := none }) (by kernel_rfl) rfl (fun K' hK => ?_)
    rw [if_pos (by rfl)]
    go_simp
    refine HDr.out.mono ?_
    rintro e w8 ⟨rfl, p8⟩
    have P8 := hid p8
    have s1 := p8.bx
    have S0 := s1.sr
    clear p8
    obtain ⟨q0, q1, q2, q3, q4, q5, q6, q7, q8⟩ : w8.cell? ⟨w.heap.size + 1 + 1, 0, none⟩ = some (gc w8 (w.heap.size + 1 + 1) 0) ∧ w8.cell? ⟨w.heap.size + 1 + 1, 1, none⟩ = some (gc w8 (w.heap.size + 1 + 1) 1) ∧ w8.cell? ⟨w.heap.size + 1 + 1, 2, none⟩ = some (gc w8 (w.heap.size + 1 + 1) 2) ∧ w8.cell? ⟨w.heap.size + 1 + 1, 3, none⟩ = some (gc w8 (w.heap.size + 1 + 1) 3) ∧ w8.cell? ⟨w.heap.size + 1 + 1, 4, none⟩ = some (gc w8 (w.heap.size + 1 + 1) 4) ∧ w8.cell? ⟨w.heap.size + 1 + 1, 5, none⟩ = some (gc w8 (w.heap.size + 1 + 1) 5) ∧ w8.cell? ⟨w.heap.size + 1 + 1, 6, none⟩ = some (gc w8 (w.heap.size + 1 + 1) 6) ∧ w8.cell? ⟨w.heap.size + 1 + 1, 7, none⟩ = some (gc w8 (w.heap.size + 1 + 1) 7) ∧ w8.cell? ⟨w.heap.size + 1 + 1, 8, none⟩ = some (gc w8 (w.heap.size + 1 + 1) 8) := ⟨S0.cell 0 (by omega), S0.cell 1 (by omega), S0.cell 2 (by omega), S0.cell 3 (by omega), S0.cell 4 (by omega), S0.cell 5 (by omega), S0.cell 6 (by omega), S0.cell 7 (by omega), S0.cell 8 (by omega)⟩
    have qf := fun i => S0.frozen i
    clear S0
    refine hK.out _ _ s1 ?_
    clear hK
    try simp only [Go.Act.put, List.setIfInBounds_toArray, List.set_cons_zero, List.set_cons_succ]
    refine wpH_take (i := 7) (v := (.bool true)) (some 59) rfl rfl (by kernel_rfl) (by kernel_rfl) (by kernel_rfl) (fun _ _ _ h => h) (Or.inl ⟨by rfl, fun w' hS => (by go_simp)⟩) s1 ?_
    try simp only [Go.Act.put, List.setIfInBounds_toArray, List.set_cons_zero, List.set_cons_succ]
    refine wpH_call (i := 8) (o := { dst := none, op := Op.store 36 (Operand.tmp 6) (Operand.tmp 52), type := 0, pos := _, after := #[{ on := 0, ground := Ground.data }, { on := 4, ground := Ground.chain }, { on := 0, ground := Ground.phase }, { on := 1, ground := Ground.textOnly Departure.lateStores }, { on := 2, ground := Ground.textOnly Departure.lateStores }, { on := 3, ground := Ground.textOnly Departure.lateStores }, { on := 4, ground := Ground.textOnly Departure.lateStoresUnsure }, { on := 5, ground := Ground.textOnly Departure.lateStores }, { on := 6, ground := Ground.textOnly Departure.lateStores }, { on := 7, ground := Ground.textOnly Departure.lateStores }], guard := none }) (by kernel_rfl) rfl (fun K' hK => ?_)
    rw [if_pos (by rfl)]
    go_simp
    refine hK.out _ _ (Bx.s9 s1 _ _ _ _ _ _ _ _ _) ?_
    clear hK
    try simp only [Go.Act.put, List.setIfInBounds_toArray, List.set_cons_zero, List.set_cons_succ]
    refine wpH_take (i := 9) (v := (.bool true)) (some 7) rfl rfl (by kernel_rfl) (by kernel_rfl) (by kernel_rfl) (fun _ _ _ h => h) (Or.inl ⟨by rfl, fun w' hS => (by go_simp)⟩) (Bx.s9 s1 _ _ _ _ _ _ _ _ _) ?_
    try simp only [Go.Act.put, List.setIfInBounds_toArray, List.set_cons_zero, List.set_cons_succ]
    refine wpAnyH_done (by kernel_rfl) ?_ _
    clear cA0 cA1 cA2 cA3 cA4 cA5 cA6 cA7 cA8 cB3 cB4 s0 s1 qf
    go_wp2
    refine bodyPost_ret (v := .tuple #[.agg #[.int .i64 c.t, .int .i64 c.n, .int .i64 c.s, .int .i64 c.e, .int .i64 c.f, .int .i64 c.b, .int .i64 c.d, .slice a1 n1 c1, .int .i64 now], .bool true]) (by simp [results, Try.results13, go_sem, q0, q1, q2, q3, q4, q5, q6, q7, q8]) rfl ?_
    exact ⟨a1, n1, c1, now, _, rfl, P8.out.fin HF.out (tset9 _ _ _ _ _ _ _ _ _ _ _)⟩
end Go.Proofs.Ytopepalpmkeffaa
/- The law's act: the kind that sweeps; no conditions but those that it states. -/
namespace Go.Proofs.Ytopepalpmkeffaa
open Go.RowKit Go.Sort Go.Maps Go.ChangeMaps Go.WideMaps
set_option linter.unusedVariables false
set_option linter.unusedSimpArgs false
theorem askE_kz (now n : Int) : askE now n (0, ⟨#[]⟩) = tickE now n := by
  unfold askE
  by_cases h : tickE now n = 0
  · rw [if_pos h, if_neg (by simp [ByteArray.size]), h]
  · rw [if_neg h]
set_option maxHeartbeats 8000000 in
set_option maxRecDepth 100000 in
theorem act13_5 (w : World) (m : Nat) (F : List Nat) (c : Cf) (now : Int) (xs : List En) (v : Value) (a : ActM) (h : Mq w m F c now xs) (hr : RN 62 w v xs) (ok : Ok a.k) (hq : kq a = 5) : Calls Try.prog 13 #[PT m, mvv c v now, avv a] w (PlQ w m F c) := by
  obtain ⟨a1, c1, rfl, hcp1, hg1⟩ := hr
  have hr : RN 62 w (.slice a1 xs.length c1) xs := ⟨a1, c1, rfl, hcp1, hg1⟩
  have HF := hid h.lt
  obtain ⟨V, hV⟩ : ∃ V, V = ((w.alloc (mbx c (.slice a1 xs.length c1) now)).alloc (abx a)).alloc mzx := ⟨_, rfl⟩
  have TV : Touch [] w V := by rw [hV]; exact (((Touch.refl _ _).alloc _).alloc _).alloc _
  have PV : Hid (PlS w m F c a (.slice a1 xs.length c1) now now xs xs V) := hid (PlS.start h hr (by rw [hV]; exact Bx.mk' w c a _ now) TV)
  obtain ⟨n1, hn1⟩ : ∃ n1, n1 = xs.length := ⟨_, rfl⟩
  rw [← hn1] at PV hV ⊢
  have HGd := hid (And.intro h.gd (And.intro h.nd h.len))
  clear hn1 hg1 hr h TV
  have HA1 := hid (fun w => at34 w c a1 n1 c1 now a)
  obtain ⟨n, hn⟩ : ∃ n, n = atN now a := ⟨_, rfl⟩
  rw [← hn] at HA1
  clear hn
  obtain ⟨te, hte⟩ : ∃ te, te = tickE now n := ⟨_, rfl⟩
  have HWr : Hid (∀ w', Calls Try.prog 35 #[mvv c (.slice a1 n1 c1) now, .int .i64 n, .agg #[.int .u16 0, .string ⟨#[]⟩]] w' fun e w'' => e = .returned (.int .i64 te) ∧ Touch [] w' w'') := hid (fun w' => by rw [hte, ← askE_kz]; exact wrong35 w' c a1 n1 c1 now n (0, ⟨#[]⟩) (by simp [ByteArray.size, maxLen]))
  obtain ⟨gs, hgs⟩ : ∃ gs, gs = spG c now n xs := ⟨_, rfl⟩
  obtain ⟨gn, hgn⟩ : ∃ gn, gn = gs.length := ⟨_, rfl⟩
  have HSw : Hid (∀ w1, PlS w m F c a (.slice a1 n1 c1) now now xs xs w1 → Calls Try.prog 23 #[.pointer (some ⟨m, 0, none⟩), .int .i64 n] w1 fun e w' => ∃ a3 c3, e = .returned (.tuple #[.slice a3 gn c3, .int .i64 te]) ∧ RT 39 w' (.slice a3 gn c3) gs ∧ PlS w m F c a (.slice a1 n1 c1) now (spN now n) xs (spX c now n xs) w') := hid (fun w1 P1 => by
    refine (P1.call (Q := fun e w' => ∃ u, e = .returned (.tuple #[u, .int .i64 te]) ∧ RT 39 w' u gs) (N := fun _ => spN now n) (Y := fun _ => spX c now n xs) (fun F' q => (sweepM w1 m F' c now n xs q).mono (by
      rintro e w' ⟨u, rfl, k1, k2⟩
      exact ⟨⟨u, by rw [hte], by rw [hgs]; exact k1⟩, k2⟩))).mono ?_
    rintro e w' ⟨⟨u, rfl, k1⟩, k2⟩
    obtain ⟨a3, c3, rfl, _⟩ := k1.form
    rw [← hgn] at k1 ⊢
    exact ⟨a3, c3, rfl, k1, k2⟩)
  have HTE := hid hte
  have HGS := hid hgs
  have HGN := hid hgn
  clear hte hgs hgn
  unfold mvv avv at HA1
  unfold mvv at HWr
  obtain ⟨a0, a1', a2', a3', a4, a5, a6, a7, a8, b0, b1, b2, b3, b4, b5, b6, b7, b8, fA⟩ := PV.out.bx.cs
  unfold mvv avv PT
  unfold mbx abx mzx at hV
  go_enter Try.func13, Try.ntmps13
  go_upto_region 1 with fail
  rw [← hV]
  clear hV
  go_upto_region 2 with fail
  unfold kq at hq
  rw [hq]
  go_upto_region 13 with (go_at_call 34; refine (HA1.out _).mono ?_; rintro e w1 ⟨rfl, t1⟩; have P1 := hid (PV.out.keep0 t1); clear t1)
  clear a0 a1' a2' a3' a4 a5 a6 a7 a8 b0 b1 b2 b3 b4 b5 b6 b7 b8 fA
  go_upto_region 14 with (go_at_call 23; refine (HSw.out _ P1.out).mono ?_; rintro e w2 ⟨a3, c3, rfl, r2, q2⟩; have P2 := hid q2; have R2 := hid r2; clear r2 q2)
  obtain ⟨a0, a1', a2', a3', a4, a5, a6, a7, a8, b0, b1, b2, b3, b4, b5, b6, b7, b8, fA⟩ := P2.out.bx.cs
  go_upto_region 15 with (go_at_call 35; refine (HWr.out _).mono ?_; rintro e w3 ⟨rfl, t3⟩; have P3 := hid (P2.out.keep0 t3); have R3 := hid (R2.out.keep t3); clear t3)
  clear a0 a1' a2' a3' a4 a5 a6 a7 a8 b0 b1 b2 b3 b4 b5 b6 b7 b8 fA
  clear P1 P2 R2 PV HSw HWr HA1
  by_cases hne : te ≠ 0
  · have hke : ¬ tickE now n = 0 := by rw [← HTE.out]; exact hne
    have P4 : Hid (PlS w m F c a (.slice a1 n1 c1) now now xs xs w3) := hid (by have h := P3.out; unfold spN spX at h; rw [if_neg hke, if_neg hke] at h; exact h)
    obtain rfl : gn = 0 := by rw [HGN.out, HGS.out]; unfold spG; rw [if_neg hke]; rfl
    obtain ⟨a0, a1', a2', a3', a4, a5, a6, a7, a8, b0, b1, b2, b3, b4, b5, b6, b7, b8, fA⟩ := P4.out.bx.cs
    have S0 := P4.out.bx.sr
    obtain ⟨q0, q1, q2, q3, q4, q5, q6, q7, q8⟩ : w3.cell? ⟨w.heap.size + 1 + 1, 0, none⟩ = some (gc w3 (w.heap.size + 1 + 1) 0) ∧ w3.cell? ⟨w.heap.size + 1 + 1, 1, none⟩ = some (gc w3 (w.heap.size + 1 + 1) 1) ∧ w3.cell? ⟨w.heap.size + 1 + 1, 2, none⟩ = some (gc w3 (w.heap.size + 1 + 1) 2) ∧ w3.cell? ⟨w.heap.size + 1 + 1, 3, none⟩ = some (gc w3 (w.heap.size + 1 + 1) 3) ∧ w3.cell? ⟨w.heap.size + 1 + 1, 4, none⟩ = some (gc w3 (w.heap.size + 1 + 1) 4) ∧ w3.cell? ⟨w.heap.size + 1 + 1, 5, none⟩ = some (gc w3 (w.heap.size + 1 + 1) 5) ∧ w3.cell? ⟨w.heap.size + 1 + 1, 6, none⟩ = some (gc w3 (w.heap.size + 1 + 1) 6) ∧ w3.cell? ⟨w.heap.size + 1 + 1, 7, none⟩ = some (gc w3 (w.heap.size + 1 + 1) 7) ∧ w3.cell? ⟨w.heap.size + 1 + 1, 8, none⟩ = some (gc w3 (w.heap.size + 1 + 1) 8) := ⟨S0.cell 0 (by omega), S0.cell 1 (by omega), S0.cell 2 (by omega), S0.cell 3 (by omega), S0.cell 4 (by omega), S0.cell 5 (by omega), S0.cell 6 (by omega), S0.cell 7 (by omega), S0.cell 8 (by omega)⟩
    have qf := fun i => S0.frozen i
    clear S0 hke HTE HGN HGS
    go_wp2_with fail
    refine bodyPost_ret (v := .tuple #[.agg #[.int .i64 c.t, .int .i64 c.n, .int .i64 c.s, .int .i64 c.e, .int .i64 c.f, .int .i64 c.b, .int .i64 c.d, .slice a1 n1 c1, .int .i64 now], .bool true]) (by simp [results, Try.results13, go_sem, q0, q1, q2, q3, q4, q5, q6, q7, q8]) rfl ?_
    exact ⟨a1, n1, c1, now, xs, rfl, P4.out.fin HF.out (tset9 _ _ _ _ _ _ _ _ _ _ _)⟩
  · obtain rfl : te = 0 := Classical.not_not.1 hne
    have hte : tickE now n = 0 := HTE.out.symm
    have hnn := tickE_ok hte
    have hHG := HGd.out.1.later hnn.1 hnn.2
    have HXs : Hid (spX c now n xs = swX c n xs ∧ gs = swG c n xs ∧ spN now n = n) := hid ⟨by unfold spX; rw [if_pos hte], by rw [HGS.out]; unfold spG; rw [if_pos hte], by unfold spN; rw [if_pos hte]⟩
    have HRs : Hid (∀ w', Touch [] w3 w' → Calls Try.prog 36 #[.agg #[.int .i64 c.t, .int .i64 c.n, .int .i64 c.s, .int .i64 c.e, .int .i64 c.f, .int .i64 c.b, .int .i64 c.d], .slice a1 n1 c1, .int .i64 n] w' fun e w'' => ∃ a2 n2 c2 v2, e = .returned (.tuple #[.slice a2 n2 c2, v2]) ∧ RN 62 w'' (.slice a2 n2 c2) (swX c n xs) ∧ RT 57 w'' v2 gs ∧ Touch [] w3 w'') := hid (fun w' t => (rsweep36 w' c (.slice a1 n1 c1) xs n (by have := HGd.out.2.2; omega) (P3.out.rn.keep t) hHG.ok hHG.n1 hHG.oc hHG.wc).mono (by
      rintro e w'' ⟨v1, v2, rfl, k1, k2, k3⟩
      obtain ⟨a2, c2, rfl, k4, k5⟩ := k1
      exact ⟨a2, _, c2, v2, rfl, ⟨a2, c2, rfl, k4, k5⟩, by rw [HXs.out.2.1]; exact k2, t.trans' k3⟩))
    clear hte hnn hHG HTE
    obtain ⟨a0, a1', a2', a3', a4, a5, a6, a7, a8, b0, b1, b2, b3, b4, b5, b6, b7, b8, fA⟩ := P3.out.bx.cs
    go_upto_region 18 with (go_at_call 36; refine (HRs.out _ (Touch.refl _ _)).mono ?_; rintro e w6 ⟨a2, n2, c2, v2, rfl, r6, g6, s3⟩; have R6 := hid r6; have G6 := hid g6; have P6 := hid (P3.out.keep0 s3); have T6 := hid (R3.out.keep s3); clear r6 g6 s3)
    clear a0 a1' a2' a3' a4 a5 a6 a7 a8 b0 b1 b2 b3 b4 b5 b6 b7 b8 fA
    have P6' : Hid (PlS w m F c a (.slice a1 n1 c1) now n xs (swX c n xs) w6) := hid (by have h := P6.out; rw [HXs.out.1, HXs.out.2.2] at h; exact h)
    have a7 := P6'.out.bx.cs.a7
    have a8 := P6'.out.bx.cs.a8
    have fA := P6'.out.bx.cs.fA
    obtain ⟨W9, hW9⟩ : ∃ W9, W9 = (w6.setCell ⟨w.heap.size, 7, none⟩ (.slice a2 n2 c2)).setCell ⟨w.heap.size, 8, none⟩ (.int .i64 n) := ⟨_, rfl⟩
    have P9 : Hid (PlS w m F c a (.slice a2 n2 c2) n n (swX c n xs) (swX c n xs) W9) := hid (by rw [hW9]; exact (P6'.out.set7 HF.out R6.out).set8 HF.out n)
    have T9 : Touch [w.heap.size] w6 W9 := by rw [hW9]; exact ((Touch.refl _ _).setCell (Or.inl (by simp)) _).setCell (Or.inl (by simp)) _
    have HKy : Hid (Calls Try.prog 37 #[.slice a3 gn c3, v2] W9.drew fun e w' => e = .returned (.bool true) ∧ Touch [] W9.drew w') := hid (keys37 W9.drew _ v2 gs (by rw [HXs.out.2.1]; unfold swG; have := HGd.out.2.2; have := List.length_filter_le (fun x => isOld c n x) xs; simp only [List.length_map]; omega) ((T6.out.apart P6'.out.bx.hA (by decide) T9).keep (Touch.refl _ _).drew) ((G6.out.apart P6'.out.bx.hA (by decide) T9).keep (Touch.refl _ _).drew))
    clear T9
    go_upto_region 19 with fail
    rw [← hW9]
    clear hW9 a7 a8 fA
    have S0 := P9.out.bx.sr
    have cA0 : ∀ w', Sr W9 (w.heap.size + 1 + 1) 36 9 w' → w'.cell? ⟨w.heap.size, 0, none⟩ = some (.int .i64 c.t) := fun w' s => (P9.out.bx.under s).cs.a0
    have cA1 : ∀ w', Sr W9 (w.heap.size + 1 + 1) 36 9 w' → w'.cell? ⟨w.heap.size, 1, none⟩ = some (.int .i64 c.n) := fun w' s => (P9.out.bx.under s).cs.a1
    have cA2 : ∀ w', Sr W9 (w.heap.size + 1 + 1) 36 9 w' → w'.cell? ⟨w.heap.size, 2, none⟩ = some (.int .i64 c.s) := fun w' s => (P9.out.bx.under s).cs.a2
    have cA3 : ∀ w', Sr W9 (w.heap.size + 1 + 1) 36 9 w' → w'.cell? ⟨w.heap.size, 3, none⟩ = some (.int .i64 c.e) := fun w' s => (P9.out.bx.under s).cs.a3
    have cA4 : ∀ w', Sr W9 (w.heap.size + 1 + 1) 36 9 w' → w'.cell? ⟨w.heap.size, 4, none⟩ = some (.int .i64 c.f) := fun w' s => (P9.out.bx.under s).cs.a4
    have cA5 : ∀ w', Sr W9 (w.heap.size + 1 + 1) 36 9 w' → w'.cell? ⟨w.heap.size, 5, none⟩ = some (.int .i64 c.b) := fun w' s => (P9.out.bx.under s).cs.a5
    have cA6 : ∀ w', Sr W9 (w.heap.size + 1 + 1) 36 9 w' → w'.cell? ⟨w.heap.size, 6, none⟩ = some (.int .i64 c.d) := fun w' s => (P9.out.bx.under s).cs.a6
    have cA7 : ∀ w', Sr W9 (w.heap.size + 1 + 1) 36 9 w' → w'.cell? ⟨w.heap.size, 7, none⟩ = some (.slice a2 n2 c2) := fun w' s => (P9.out.bx.under s).cs.a7
    have cA8 : ∀ w', Sr W9 (w.heap.size + 1 + 1) 36 9 w' → w'.cell? ⟨w.heap.size, 8, none⟩ = some (.int .i64 n) := fun w' s => (P9.out.bx.under s).cs.a8
    have s0 := S0.drew
    refine wp_region_H (S := fun w' => Sr W9 (w.heap.size + 1 + 1) 36 9 w') (by kernel_rfl) ?_
    refine wpH_take (i := 0) (v := (.agg #[.int .i64 c.t, .int .i64 c.n, .int .i64 c.s, .int .i64 c.e, .int .i64 c.f, .int .i64 c.b, .int .i64 c.d, .slice a2 n2 c2, .int .i64 n])) (some 99) rfl rfl (by kernel_rfl) (by kernel_rfl) (by kernel_rfl) (fun _ _ _ h => h) (Or.inl ⟨by rfl, fun w' hS => (by have z0 := cA0 _ hS; have z1 := cA1 _ hS; have z2 := cA2 _ hS; have z3 := cA3 _ hS; have z4 := cA4 _ hS; have z5 := cA5 _ hS; have z6 := cA6 _ hS; have z7 := cA7 _ hS; have z8 := cA8 _ hS; go_simp)⟩) s0 ?_
    try simp only [Go.Act.put, List.setIfInBounds_toArray, List.set_cons_zero, List.set_cons_succ]
    refine wpH_take (i := 1) (v := (.int .i64 0)) (some 100) rfl rfl (by kernel_rfl) (by kernel_rfl) (by kernel_rfl) (fun _ _ _ h => h) (Or.inl ⟨by rfl, fun w' hS => (by go_simp)⟩) s0 ?_
    try simp only [Go.Act.put, List.setIfInBounds_toArray, List.set_cons_zero, List.set_cons_succ]
    refine wpH_take (i := 2) (v := (.bool true)) (some 101) rfl rfl (by kernel_rfl) (by kernel_rfl) (by kernel_rfl) (fun _ _ _ h => h) (Or.inl ⟨by rfl, fun w' hS => (by go_simp)⟩) s0 ?_
    try simp only [Go.Act.put, List.setIfInBounds_toArray, List.set_cons_zero, List.set_cons_succ]
    refine wpH_take (i := 3) (v := (.bool true)) (some 102) rfl rfl (by kernel_rfl) (by kernel_rfl) (by kernel_rfl) (fun _ _ _ h => h) (Or.inl ⟨by rfl, fun w' hS => (by go_simp)⟩) s0 ?_
    try simp only [Go.Act.put, List.setIfInBounds_toArray, List.set_cons_zero, List.set_cons_succ]
    refine wpH_take (i := 4) (v := (.slice a3 gn c3)) (some 103) rfl rfl (by kernel_rfl) (by kernel_rfl) (by kernel_rfl) (fun _ _ _ h => h) (Or.inl ⟨by rfl, fun w' hS => (by go_simp)⟩) s0 ?_
    try simp only [Go.Act.put, List.setIfInBounds_toArray, List.set_cons_zero, List.set_cons_succ]
    refine wpH_take (i := 5) (v := (v2)) (some 104) rfl rfl (by kernel_rfl) (by kernel_rfl) (by kernel_rfl) (fun _ _ _ h => h) (Or.inl ⟨by rfl, fun w' hS => (by go_simp)⟩) s0 ?_
    try simp only [Go.Act.put, List.setIfInBounds_toArray, List.set_cons_zero, List.set_cons_succ]
    refine wpH_call (i := 6) (o := { dst := some 105, op := Op.call { callee := Callee.value (Operand.func 37), args := #[Operand.tmp 103, Operand.tmp 104], argTypes := #[69, 100] }, type := 4, pos := _, after := #[{ on := 4, ground := Ground.data }, { on := 5, ground := Ground.data }, { on := 3, ground := Ground.chain }, { on := 3, ground := Ground.guard }], guard := some (3, true) }) (by kernel_rfl) rfl (fun K' hK => ?_)
    rw [if_pos (by rfl)]
    go_simp
    refine HKy.out.mono ?_
    rintro e w10 ⟨rfl, t10⟩
    have s1 := s0.go t10
    have TO : Hid (Touch [] W9 w10) := hid ((Touch.refl _ _).drew.trans' t10)
    clear t10
    obtain ⟨q0, q1, q2, q3, q4, q5, q6, q7, q8⟩ : w10.cell? ⟨w.heap.size + 1 + 1, 0, none⟩ = some (gc w10 (w.heap.size + 1 + 1) 0) ∧ w10.cell? ⟨w.heap.size + 1 + 1, 1, none⟩ = some (gc w10 (w.heap.size + 1 + 1) 1) ∧ w10.cell? ⟨w.heap.size + 1 + 1, 2, none⟩ = some (gc w10 (w.heap.size + 1 + 1) 2) ∧ w10.cell? ⟨w.heap.size + 1 + 1, 3, none⟩ = some (gc w10 (w.heap.size + 1 + 1) 3) ∧ w10.cell? ⟨w.heap.size + 1 + 1, 4, none⟩ = some (gc w10 (w.heap.size + 1 + 1) 4) ∧ w10.cell? ⟨w.heap.size + 1 + 1, 5, none⟩ = some (gc w10 (w.heap.size + 1 + 1) 5) ∧ w10.cell? ⟨w.heap.size + 1 + 1, 6, none⟩ = some (gc w10 (w.heap.size + 1 + 1) 6) ∧ w10.cell? ⟨w.heap.size + 1 + 1, 7, none⟩ = some (gc w10 (w.heap.size + 1 + 1) 7) ∧ w10.cell? ⟨w.heap.size + 1 + 1, 8, none⟩ = some (gc w10 (w.heap.size + 1 + 1) 8) := ⟨s1.cell 0 (by omega), s1.cell 1 (by omega), s1.cell 2 (by omega), s1.cell 3 (by omega), s1.cell 4 (by omega), s1.cell 5 (by omega), s1.cell 6 (by omega), s1.cell 7 (by omega), s1.cell 8 (by omega)⟩
    have qf := fun i => s1.frozen i
    refine hK.out _ _ s1 ?_
    clear hK
    try simp only [Go.Act.put, List.setIfInBounds_toArray, List.set_cons_zero, List.set_cons_succ]
    refine wpH_take (i := 7) (v := (.bool true)) (some 106) rfl rfl (by kernel_rfl) (by kernel_rfl) (by kernel_rfl) (fun _ _ _ h => h) (Or.inl ⟨by rfl, fun w' hS => (by go_simp)⟩) s1 ?_
    try simp only [Go.Act.put, List.setIfInBounds_toArray, List.set_cons_zero, List.set_cons_succ]
    refine wpH_call (i := 8) (o := { dst := none, op := Op.store 36 (Operand.tmp 6) (Operand.tmp 99), type := 0, pos := _, after := #[{ on := 0, ground := Ground.data }, { on := 6, ground := Ground.chain }, { on := 0, ground := Ground.phase }, { on := 1, ground := Ground.textOnly Departure.lateStores }, { on := 2, ground := Ground.textOnly Departure.lateStores }, { on := 3, ground := Ground.textOnly Departure.lateStores }, { on := 4, ground := Ground.textOnly Departure.lateStores }, { on := 5, ground := Ground.textOnly Departure.lateStores }, { on := 6, ground := Ground.textOnly Departure.lateStoresUnsure }, { on := 7, ground := Ground.textOnly Departure.lateStores }], guard := none }) (by kernel_rfl) rfl (fun K' hK => ?_)
    rw [if_pos (by rfl)]
    go_simp
    refine hK.out _ _ (Sr.s9 s1 _ _ _ _ _ _ _ _ _) ?_
    clear hK
    try simp only [Go.Act.put, List.setIfInBounds_toArray, List.set_cons_zero, List.set_cons_succ]
    refine wpH_take (i := 9) (v := (.bool true)) (some 7) rfl rfl (by kernel_rfl) (by kernel_rfl) (by kernel_rfl) (fun _ _ _ h => h) (Or.inl ⟨by rfl, fun w' hS => (by go_simp)⟩) (Sr.s9 s1 _ _ _ _ _ _ _ _ _) ?_
    try simp only [Go.Act.put, List.setIfInBounds_toArray, List.set_cons_zero, List.set_cons_succ]
    refine wpAnyH_done (by kernel_rfl) ?_ _
    have S1 := hid s1
    clear cA0 cA1 cA2 cA3 cA4 cA5 cA6 cA7 cA8 s0 s1 qf S0
    go_wp2
    refine bodyPost_ret (v := .tuple #[.agg #[.int .i64 c.t, .int .i64 c.n, .int .i64 c.s, .int .i64 c.e, .int .i64 c.f, .int .i64 c.b, .int .i64 c.d, .slice a2 n2 c2, .int .i64 n], .bool true]) (by simp [results, Try.results13, go_sem, q0, q1, q2, q3, q4, q5, q6, q7, q8]) rfl ?_
    exact ⟨a2, n2, c2, n, _, rfl, (P9.out.keep0 TO.out).fin HF.out (tset9 _ _ _ _ _ _ _ _ _ _ _)⟩
end Go.Proofs.Ytopepalpmkeffaa
/- The law's act: the kind that clones; no conditions but those that it states. -/
namespace Go.Proofs.Ytopepalpmkeffaa
open Go.RowKit Go.Sort Go.Maps Go.ChangeMaps Go.WideMaps
set_option linter.unusedVariables false
set_option linter.unusedSimpArgs false
set_option maxHeartbeats 8000000 in
set_option maxRecDepth 100000 in
theorem act13_6 (w : World) (m : Nat) (F : List Nat) (c : Cf) (now : Int) (xs : List En) (v : Value) (a : ActM) (h : Mq w m F c now xs) (hr : RN 62 w v xs) (ok : Ok a.k) (hq : kq a = 6) : Calls Try.prog 13 #[PT m, mvv c v now, avv a] w (PlQ w m F c) := by
  obtain ⟨a1, c1, rfl, hcp1, hg1⟩ := hr
  have hr : RN 62 w (.slice a1 xs.length c1) xs := ⟨a1, c1, rfl, hcp1, hg1⟩
  have HF := hid h.lt
  obtain ⟨V, hV⟩ : ∃ V, V = ((w.alloc (mbx c (.slice a1 xs.length c1) now)).alloc (abx a)).alloc mzx := ⟨_, rfl⟩
  have TV : Touch [] w V := by rw [hV]; exact (((Touch.refl _ _).alloc _).alloc _).alloc _
  have PV : Hid (PlS w m F c a (.slice a1 xs.length c1) now now xs xs V) := hid (PlS.start h hr (by rw [hV]; exact Bx.mk' w c a _ now) TV)
  obtain ⟨n1, hn1⟩ : ∃ n1, n1 = xs.length := ⟨_, rfl⟩
  rw [← hn1] at PV hV ⊢
  have HGd := hid (And.intro h.gd (And.intro h.nd h.len))
  clear hn1 hg1 hr h TV
  have HCl : Hid (Calls Try.prog 28 #[.pointer (some ⟨m, 0, none⟩)] V fun e w' => ∃ m2, e = .returned (PT m2) ∧ CpQ V m2 c now xs w') := hid (by obtain ⟨F1, q, _, _⟩ := PV.out.mc; exact cloneM V m F1 c now xs q)
  unfold PT CpQ at HCl
  obtain ⟨a0, a1', a2', a3', a4, a5, a6, a7, a8, b0, b1, b2, b3, b4, b5, b6, b7, b8, fA⟩ := PV.out.bx.cs
  unfold mvv avv PT
  unfold mbx abx mzx at hV
  go_enter Try.func13, Try.ntmps13
  go_upto_region 1 with fail
  rw [← hV]
  clear hV
  go_upto_region 2 with fail
  unfold kq at hq
  rw [hq]
  go_upto_region 22 with (go_at_call 28; refine HCl.out.mono ?_; rintro e w1 ⟨m2, rfl, F2, q2, f2, t1⟩; have Q2 := hid q2; have F2' := hid f2; have T1 := hid t1; clear q2 f2 t1)
  clear a0 a1' a2' a3' a4 a5 a6 a7 a8 b0 b1 b2 b3 b4 b5 b6 b7 b8 fA
  have HSt : Hid (Calls Try.prog 14 #[PT m2, mvv c (.slice a1 n1 c1) now, .agg #[.int .u16 a.k.1, .string a.k.2]] w1 fun e w' => e = .returned (.bool true) ∧ Touch [] w1 w') := hid (stands14 w1 m2 F2 c now xs (.slice a1 n1 c1) a.k ok Q2.out (PV.out.rn.keep T1.out))
  unfold mvv PT at HSt
  obtain ⟨a0, a1', a2', a3', a4, a5, a6, a7, a8, b0, b1, b2, b3, b4, b5, b6, b7, b8, fA⟩ := (PV.out.bx.keep0 T1.out).cs
  go_upto_region 24 with (go_at_call 14; refine HSt.out.mono ?_; rintro e w2 ⟨rfl, t2⟩; have T2 := hid (T1.out.trans' t2); have Q2' := hid (Q2.out.keep0 t2); clear t2)
  clear a0 a1' a2' a3' a4 a5 a6 a7 a8 b0 b1 b2 b3 b4 b5 b6 b7 b8 fA
  clear HSt HCl Q2
  have HNw : Hid (Calls Try.prog 26 #[.pointer (some ⟨m2, 0, none⟩)] w2.drew fun e w'' => e = .returned (.int .i64 now) ∧ w'' = w2.drew) := hid (by obtain ⟨b, o, G, _, q⟩ := Q2'.out.keep0 (Touch.refl _ _).drew; exact now26 w2.drew m2 c now b o q.md)
  have HKp : Hid (Calls Try.prog 18 #[.pointer (some ⟨m2, 0, none⟩), .int .i64 now, .agg #[.int .u16 a.k.1, .string a.k.2], .agg #[.int .i64 a.o.1, .int .i64 a.o.2.1, .int .i64 a.o.2.2.1, .int .i64 a.o.2.2.2]] w2.drew fun e w' => ∃ u, e = .returned u ∧ Touch [] V w' ∧ ∃ F3, Mq w' m2 F3 c (kpN now now a.k a.o) (kpX c now now xs a.k a.o) ∧ ∀ k ∈ F3, V.heap.size ≤ k) := hid ((keepM w2.drew m2 F2 c now now xs (Q2'.out.keep0 (Touch.refl _ _).drew) a.k ok a.o).mono (by
    rintro e w' ⟨u, rfl, k1, F3, q3, t3, f3⟩
    refine ⟨_, rfl, T2.out.drew.trans t3 (fun i hi => Or.inr (F2'.out i hi)), F3, q3, fun k hk => ?_⟩
    rcases f3 k hk with h | h
    · exact F2'.out k h
    · exact Nat.le_trans T2.out.drew.size h))
  have sB3 : ∀ w', Touch [] V w' → w'.cell? ⟨w.heap.size + 1, 3, none⟩ = some (.int .u16 a.k.1) := fun w' s => (PV.out.bx.keep0 s).cs.b3
  have sB4 : ∀ w', Touch [] V w' → w'.cell? ⟨w.heap.size + 1, 4, none⟩ = some (.string a.k.2) := fun w' s => (PV.out.bx.keep0 s).cs.b4
  have sB5 : ∀ w', Touch [] V w' → w'.cell? ⟨w.heap.size + 1, 5, none⟩ = some (.int .i64 a.o.1) := fun w' s => (PV.out.bx.keep0 s).cs.b5
  have sB6 : ∀ w', Touch [] V w' → w'.cell? ⟨w.heap.size + 1, 6, none⟩ = some (.int .i64 a.o.2.1) := fun w' s => (PV.out.bx.keep0 s).cs.b6
  have sB7 : ∀ w', Touch [] V w' → w'.cell? ⟨w.heap.size + 1, 7, none⟩ = some (.int .i64 a.o.2.2.1) := fun w' s => (PV.out.bx.keep0 s).cs.b7
  have sB8 : ∀ w', Touch [] V w' → w'.cell? ⟨w.heap.size + 1, 8, none⟩ = some (.int .i64 a.o.2.2.2) := fun w' s => (PV.out.bx.keep0 s).cs.b8
  have s0 : Touch [] V w2.drew := T2.out.drew
  refine wp_region_H (S := fun w' => Touch [] V w') (by kernel_rfl) ?_
  refine wpH_take (i := 0) (v := (.pointer (some ⟨m2, 0, none⟩))) (some 122) rfl rfl (by kernel_rfl) (by kernel_rfl) (by kernel_rfl) (fun _ _ _ h => h) (Or.inl ⟨by rfl, fun w' hS => (by go_simp)⟩) s0 ?_
  try simp only [Go.Act.put, List.setIfInBounds_toArray, List.set_cons_zero, List.set_cons_succ]
  refine wpH_take (i := 1) (v := (.pointer (some ⟨m2, 0, none⟩))) (some 123) rfl rfl (by kernel_rfl) (by kernel_rfl) (by kernel_rfl) (fun _ _ _ h => h) (Or.inl ⟨by rfl, fun w' hS => (by go_simp)⟩) s0 ?_
  try simp only [Go.Act.put, List.setIfInBounds_toArray, List.set_cons_zero, List.set_cons_succ]
  refine wpH_take (i := 3) (v := (.pointer (some ⟨w.heap.size + 1, 3, none⟩))) (some 125) rfl rfl (by kernel_rfl) (by kernel_rfl) (by kernel_rfl) (fun _ _ _ h => h) (Or.inl ⟨by rfl, fun w' hS => (by go_simp)⟩) s0 ?_
  try simp only [Go.Act.put, List.setIfInBounds_toArray, List.set_cons_zero, List.set_cons_succ]
  refine wpH_take (i := 4) (v := (.agg #[.int .u16 a.k.1, .string a.k.2])) (some 126) rfl rfl (by kernel_rfl) (by kernel_rfl) (by kernel_rfl) (fun _ _ _ h => h) (Or.inl ⟨by rfl, fun w' hS => (by have z0 := sB3 _ hS; have z1 := sB4 _ hS; go_simp)⟩) s0 ?_
  try simp only [Go.Act.put, List.setIfInBounds_toArray, List.set_cons_zero, List.set_cons_succ]
  refine wpH_take (i := 5) (v := (.pointer (some ⟨w.heap.size + 1, 5, none⟩))) (some 127) rfl rfl (by kernel_rfl) (by kernel_rfl) (by kernel_rfl) (fun _ _ _ h => h) (Or.inl ⟨by rfl, fun w' hS => (by go_simp)⟩) s0 ?_
  try simp only [Go.Act.put, List.setIfInBounds_toArray, List.set_cons_zero, List.set_cons_succ]
  refine wpH_take (i := 6) (v := (.agg #[.int .i64 a.o.1, .int .i64 a.o.2.1, .int .i64 a.o.2.2.1, .int .i64 a.o.2.2.2])) (some 128) rfl rfl (by kernel_rfl) (by kernel_rfl) (by kernel_rfl) (fun _ _ _ h => h) (Or.inl ⟨by rfl, fun w' hS => (by have z0 := sB5 _ hS; have z1 := sB6 _ hS; have z2 := sB7 _ hS; have z3 := sB8 _ hS; go_simp)⟩) s0 ?_
  try simp only [Go.Act.put, List.setIfInBounds_toArray, List.set_cons_zero, List.set_cons_succ]
  refine wpH_call (i := 2) (o := { dst := some 124, op := Op.call { callee := Callee.value (Operand.func 26), args := #[Operand.tmp 123], argTypes := #[26] }, type := 2, pos := _, after := #[{ on := 1, ground := Ground.data }], guard := none }) (by kernel_rfl) rfl (fun K' hK => ?_)
  rw [if_pos (by rfl)]
  go_simp
  refine HNw.out.mono ?_
  rintro e w' ⟨rfl, e'⟩
  rw [e']
  clear e' w'
  refine hK.out _ _ s0 ?_
  clear hK
  try simp only [Go.Act.put, List.setIfInBounds_toArray, List.set_cons_zero, List.set_cons_succ]
  refine wpH_call (i := 7) (o := { dst := some 129, op := Op.call { callee := Callee.value (Operand.func 18), args := #[Operand.tmp 122, Operand.tmp 124, Operand.tmp 126, Operand.tmp 128], argTypes := #[26, 2, 39, 43] }, type := 70, pos := _, after := #[{ on := 0, ground := Ground.data }, { on := 2, ground := Ground.data }, { on := 4, ground := Ground.data }, { on := 6, ground := Ground.data }, { on := 2, ground := Ground.chain }], guard := none }) (by kernel_rfl) rfl (fun K' hK => ?_)
  rw [if_pos (by rfl)]
  go_simp
  refine HKp.out.mono ?_
  rintro e w3 ⟨u3, rfl, s3, F3, q3, f3⟩
  have Q3 := hid q3
  have FF := hid f3
  clear q3 f3
  refine hK.out _ _ s3 ?_
  clear hK
  try simp only [Go.Act.put, List.setIfInBounds_toArray, List.set_cons_zero, List.set_cons_succ]
  refine wpAnyH_done (by kernel_rfl) ?_ _
  have T3 := hid s3
  clear sB3 sB4 sB5 sB6 sB7 sB8 s0 s3
  have HDr : Hid (Calls Try.prog 25 #[.pointer (some ⟨m2, 0, none⟩), .agg #[.int .u16 a.k.1, .string a.k.2]] w3 fun e w' => ∃ u, e = .returned (.bool u) ∧ Touch [] V w') := hid ((dropM w3 m2 F3 c _ _ Q3.out a.k ok).mono (by
    rintro e w' ⟨rfl, F4, q4, t4, f4⟩
    exact ⟨_, rfl, T3.out.trans t4 (fun i hi => Or.inr (FF.out i hi))⟩))
  obtain ⟨b3, b4⟩ : w3.cell? ⟨w.heap.size + 1, 3, none⟩ = some (.int .u16 a.k.1) ∧ w3.cell? ⟨w.heap.size + 1, 4, none⟩ = some (.string a.k.2) := ⟨(PV.out.bx.keep0 T3.out).cs.b3, (PV.out.bx.keep0 T3.out).cs.b4⟩
  go_upto_region 26 with (go_at_call 25; refine HDr.out.mono ?_; rintro e w4 ⟨u4, rfl, t4⟩; have P4 := hid (PV.out.keep0 t4); clear t4)
  clear b3 b4
  obtain ⟨a0, a1', a2', a3', a4, a5, a6, a7, a8, b0, b1, b2, b3, b4, b5, b6, b7, b8, fA⟩ := P4.out.bx.cs
  have S0 := P4.out.bx.sr
  obtain ⟨q0, q1, q2, q3, q4, q5, q6, q7, q8⟩ : w4.cell? ⟨w.heap.size + 1 + 1, 0, none⟩ = some (gc w4 (w.heap.size + 1 + 1) 0) ∧ w4.cell? ⟨w.heap.size + 1 + 1, 1, none⟩ = some (gc w4 (w.heap.size + 1 + 1) 1) ∧ w4.cell? ⟨w.heap.size + 1 + 1, 2, none⟩ = some (gc w4 (w.heap.size + 1 + 1) 2) ∧ w4.cell? ⟨w.heap.size + 1 + 1, 3, none⟩ = some (gc w4 (w.heap.size + 1 + 1) 3) ∧ w4.cell? ⟨w.heap.size + 1 + 1, 4, none⟩ = some (gc w4 (w.heap.size + 1 + 1) 4) ∧ w4.cell? ⟨w.heap.size + 1 + 1, 5, none⟩ = some (gc w4 (w.heap.size + 1 + 1) 5) ∧ w4.cell? ⟨w.heap.size + 1 + 1, 6, none⟩ = some (gc w4 (w.heap.size + 1 + 1) 6) ∧ w4.cell? ⟨w.heap.size + 1 + 1, 7, none⟩ = some (gc w4 (w.heap.size + 1 + 1) 7) ∧ w4.cell? ⟨w.heap.size + 1 + 1, 8, none⟩ = some (gc w4 (w.heap.size + 1 + 1) 8) := ⟨S0.cell 0 (by omega), S0.cell 1 (by omega), S0.cell 2 (by omega), S0.cell 3 (by omega), S0.cell 4 (by omega), S0.cell 5 (by omega), S0.cell 6 (by omega), S0.cell 7 (by omega), S0.cell 8 (by omega)⟩
  have qf := fun i => S0.frozen i
  clear S0
  go_wp2_with fail
  refine bodyPost_ret (v := .tuple #[.agg #[.int .i64 c.t, .int .i64 c.n, .int .i64 c.s, .int .i64 c.e, .int .i64 c.f, .int .i64 c.b, .int .i64 c.d, .slice a1 n1 c1, .int .i64 now], .bool true]) (by simp [results, Try.results13, go_sem, q0, q1, q2, q3, q4, q5, q6, q7, q8]) rfl ?_
  exact ⟨a1, n1, c1, now, xs, rfl, P4.out.fin HF.out (tset9 _ _ _ _ _ _ _ _ _ _ _)⟩
end Go.Proofs.Ytopepalpmkeffaa
/- The contract of the law's act; no conditions but those that it states. -/
namespace Go.Proofs.Ytopepalpmkeffaa
open Go.RowKit Go.Sort Go.Maps Go.ChangeMaps Go.WideMaps
set_option linter.unusedVariables false
set_option linter.unusedSimpArgs false
theorem act13 (w : World) (m : Nat) (F : List Nat) (c : Cf) (now : Int) (xs : List En) (v : Value) (a : ActM) (h : Mq w m F c now xs) (hr : RN 62 w v xs) (ok : Ok a.k) : Calls Try.prog 13 #[PT m, mvv c v now, avv a] w (PlQ w m F c) := by
  by_cases h2 : kq a = 2
  · exact act13_2 w m F c now xs v a h hr ok h2
  by_cases h3 : kq a = 3
  · exact act13_3 w m F c now xs v a h hr ok h3
  by_cases h4 : kq a = 4
  · exact act13_4 w m F c now xs v a h hr ok h4
  by_cases h5 : kq a = 5
  · exact act13_5 w m F c now xs v a h hr ok h5
  by_cases h6 : kq a = 6
  · exact act13_6 w m F c now xs v a h hr ok h6
  exact act13_x w m F c now xs v a h hr ok (by simp [h2]) (by simp [h3]) (by simp [h4]) (by simp [h5]) (by simp [h6])
end Go.Proofs.Ytopepalpmkeffaa
/- The state between the acts of a law: the memo, the model's box, the act's box; no conditions but those that each states. -/
namespace Go.Proofs.Ytopepalpmkeffaa
open Go.RowKit Go.Sort Go.Maps Go.ChangeMaps Go.WideMaps
set_option linter.unusedVariables false
set_option linter.unusedSimpArgs false

structure LaS (w : World) (m : Nat) (c : Cf) (x bq : Nat) (ac : ActM) (u : Value) (nu : Int) (v : Value) (now : Int) (xs : List En) (wr : World) : Prop where
  mq : ∃ F, Mq wr m F c now xs ∧ ∀ k ∈ F, w.heap.size ≤ k
  hx : wr.heap[x]? = some (mbx c u nu)
  hb : wr.heap[bq]? = some (abx ac)
  rn : RN 62 wr v xs
  lx : w.heap.size ≤ x
  t : Touch [] w wr
def LpS (w : World) (m : Nat) (c : Cf) (x : Nat) (wr : World) : Prop := ∃ F a1 n1 c1 now xs, Mq wr m F c now xs ∧ (∀ k ∈ F, w.heap.size ≤ k) ∧ wr.heap[x]? = some (mbx c (.slice a1 n1 c1) now) ∧ RN 62 wr (.slice a1 n1 c1) xs ∧ w.heap.size ≤ x ∧ Touch [] w wr
section
variable {w wr wr' : World} {m x bq : Nat} {c : Cf} {ac : ActM} {u v : Value} {nu now : Int} {xs : List En}
theorem LaS.act (h : LaS w m c x bq ac v now v now xs wr) (ok : Ok ac.k) : Calls Try.prog 13 #[PT m, mvv c v now, avv ac] wr fun e w5 => ∃ a2 n2 c2 now2 ys, e = .returned (.tuple #[mvv c (.slice a2 n2 c2) now2, .bool true]) ∧ LaS w m c x bq ac v now (.slice a2 n2 c2) now2 ys w5 := by
  obtain ⟨F, q, hF⟩ := h.mq
  refine (act13 wr m F c now xs v ac q h.rn ok).mono ?_
  rintro e w5 ⟨a2, n2, c2, now2, ys, rfl, ⟨F2, q2, t2, f2⟩, r2⟩
  refine ⟨a2, n2, c2, now2, ys, rfl, ⟨F2, q2, fun k hk => ?_⟩, q.blk t2 h.hx (by decide) (by decide) (by decide), q.blk t2 h.hb (by decide) (by decide) (by decide), r2, h.lx, h.t.trans t2 (fun i hi => Or.inr (hF i hi))⟩
  rcases f2 k hk with h1 | h1
  · exact hF k h1
  · exact Nat.le_trans h.t.size h1
theorem LaS.set (h : LaS w m c x bq ac u nu v now xs wr) : LaS w m c x bq ac v now v now xs (((((((((wr.setCell ⟨x, 0, none⟩ (.int .i64 c.t)).setCell ⟨x, 1, none⟩ (.int .i64 c.n)).setCell ⟨x, 2, none⟩ (.int .i64 c.s)).setCell ⟨x, 3, none⟩ (.int .i64 c.e)).setCell ⟨x, 4, none⟩ (.int .i64 c.f)).setCell ⟨x, 5, none⟩ (.int .i64 c.b)).setCell ⟨x, 6, none⟩ (.int .i64 c.d)).setCell ⟨x, 7, none⟩ (v)).setCell ⟨x, 8, none⟩ (.int .i64 now)) := by
  have t : Touch [x] wr (((((((((wr.setCell ⟨x, 0, none⟩ (.int .i64 c.t)).setCell ⟨x, 1, none⟩ (.int .i64 c.n)).setCell ⟨x, 2, none⟩ (.int .i64 c.s)).setCell ⟨x, 3, none⟩ (.int .i64 c.e)).setCell ⟨x, 4, none⟩ (.int .i64 c.f)).setCell ⟨x, 5, none⟩ (.int .i64 c.b)).setCell ⟨x, 6, none⟩ (.int .i64 c.d)).setCell ⟨x, 7, none⟩ (v)).setCell ⟨x, 8, none⟩ (.int .i64 now)) := tset9 _ _ _ _ _ _ _ _ _ _ _
  have h0 : wr.heap[x]? = some (.cells #[.int .i64 c.t, .int .i64 c.n, .int .i64 c.s, .int .i64 c.e, .int .i64 c.f, .int .i64 c.b, .int .i64 c.d, u, .int .i64 nu] 36 (0, 0)) := h.hx
  have hh := bset (i := 8) (bset (i := 7) (bset (i := 6) (bset (i := 5) (bset (i := 4) (bset (i := 3) (bset (i := 2) (bset (i := 1) (bset (i := 0) h0 (.int .i64 c.t)) (.int .i64 c.n)) (.int .i64 c.s)) (.int .i64 c.e)) (.int .i64 c.f)) (.int .i64 c.b)) (.int .i64 c.d)) v) (.int .i64 now)
  simp only [List.setIfInBounds_toArray, List.set_cons_zero, List.set_cons_succ] at hh
  obtain ⟨F, q, hF⟩ := h.mq
  have hn : ¬ x ∈ F := q.away h.hx (by decide) (by decide) (by decide)
  have hne : bq ≠ x := fun e => by
    have h1 := h.hb
    rw [e, h.hx] at h1
    unfold mbx abx at h1
    simp at h1
  exact ⟨⟨F, q.keep t (fun k hk hh => by simp only [List.mem_singleton] at hh; subst hh; exact hn hk), hF⟩, hh,
    t.keep h.hb (by simpa using hne), h.rn.keepK (fun k cs' hk => t.keep hk (fun hh => by simp only [List.mem_singleton] at hh; subst hh; rw [h.hx] at hk; unfold mbx at hk; simp at hk)), h.lx,
    h.t.trans t (fun i hi => by simp only [List.mem_singleton] at hi; subst hi; exact Or.inr h.lx)⟩
theorem LaS.keep0 (h : LaS w m c x bq ac u nu v now xs wr) (t : Touch [] wr wr') : LaS w m c x bq ac u nu v now xs wr' := by
  obtain ⟨F, q, hF⟩ := h.mq
  exact ⟨⟨F, q.keep0 t, hF⟩, t.keep h.hx (by simp), t.keep h.hb (by simp), h.rn.keep t, h.lx, h.t.trans' t⟩
theorem LaS.stands (h : LaS w m c x bq ac u nu v now xs wr) {k : K} (ok : Ok k) : Calls Try.prog 14 #[PT m, mvv c v now, kv k] wr fun e w' => e = .returned (.bool true) ∧ LaS w m c x bq ac u nu v now xs w' := by
  obtain ⟨F, q, hF⟩ := h.mq
  refine (stands14 wr m F c now xs v k ok q h.rn).mono ?_
  rintro e w' ⟨rfl, t⟩
  exact ⟨rfl, h.keep0 t⟩
theorem LaS.lp {a1 : Option Addr} {n1 c1 : Nat} (h : LaS w m c x bq ac (.slice a1 n1 c1) now (.slice a1 n1 c1) now xs wr) : LpS w m c x wr := by
  obtain ⟨F, q, hF⟩ := h.mq
  exact ⟨F, a1, n1, c1, now, xs, q, hF, h.hx, h.rn, h.lx, h.t⟩
theorem LpS.start (h : LpS w m c x wr) (ac : ActM) : ∃ a1 n1 c1 now xs, wr.heap[x]? = some (mbx c (.slice a1 n1 c1) now) ∧ LaS w m c x wr.heap.size ac (.slice a1 n1 c1) now (.slice a1 n1 c1) now xs (wr.alloc (abx ac)) := by
  obtain ⟨F, a1, n1, c1, now, xs, q, hF, hx, hr, lx, t⟩ := h
  have t0 : Touch [] wr (wr.alloc (abx ac)) := (Touch.refl _ _).alloc _
  exact ⟨a1, n1, c1, now, xs, hx, ⟨F, q.keep0 t0, hF⟩, t0.keep hx (by simp), heap_alloc_new wr _, hr.keep t0, lx, t.trans' t0⟩
theorem LpS.t (h : LpS w m c x wr) : Touch [] w wr := by
  obtain ⟨F, a1, n1, c1, now, xs, q, hF, hx, hr, lx, t⟩ := h
  exact t
structure M9 (w : World) (r : Nat) (c : Cf) (v : Value) (now : Int) : Prop where
  c0 : w.cell? ⟨r, 0, none⟩ = some (.int .i64 c.t)
  c1 : w.cell? ⟨r, 1, none⟩ = some (.int .i64 c.n)
  c2 : w.cell? ⟨r, 2, none⟩ = some (.int .i64 c.s)
  c3 : w.cell? ⟨r, 3, none⟩ = some (.int .i64 c.e)
  c4 : w.cell? ⟨r, 4, none⟩ = some (.int .i64 c.f)
  c5 : w.cell? ⟨r, 5, none⟩ = some (.int .i64 c.b)
  c6 : w.cell? ⟨r, 6, none⟩ = some (.int .i64 c.d)
  c7 : w.cell? ⟨r, 7, none⟩ = some (v)
  c8 : w.cell? ⟨r, 8, none⟩ = some (.int .i64 now)
  fz : ∀ i, w.frozen? ⟨r, i, none⟩ = false
theorem M9.mk' {w : World} {r : Nat} {c : Cf} {v : Value} {now : Int} (h : w.heap[r]? = some (mbx c v now)) : M9 w r c v now := by
  unfold mbx at h
  constructor
  case fz => intro i; simp [World.frozen?, h]
  all_goals simp [World.cell?, h]
structure B9 (w : World) (r : Nat) (ac : ActM) : Prop where
  c0 : w.cell? ⟨r, 0, none⟩ = some (.int .i64 ac.kd)
  c1 : w.cell? ⟨r, 1, none⟩ = some (.int .i64 ac.st)
  c2 : w.cell? ⟨r, 2, none⟩ = some (.int .i64 ac.od)
  c3 : w.cell? ⟨r, 3, none⟩ = some (.int .u16 ac.k.1)
  c4 : w.cell? ⟨r, 4, none⟩ = some (.string ac.k.2)
  c5 : w.cell? ⟨r, 5, none⟩ = some (.int .i64 ac.o.1)
  c6 : w.cell? ⟨r, 6, none⟩ = some (.int .i64 ac.o.2.1)
  c7 : w.cell? ⟨r, 7, none⟩ = some (.int .i64 ac.o.2.2.1)
  c8 : w.cell? ⟨r, 8, none⟩ = some (.int .i64 ac.o.2.2.2)
theorem B9.mk' {w : World} {r : Nat} {ac : ActM} (h : w.heap[r]? = some (abx ac)) : B9 w r ac := by
  unfold abx at h
  constructor
  all_goals simp [World.cell?, h]
end
end Go.Proofs.Ytopepalpmkeffaa
