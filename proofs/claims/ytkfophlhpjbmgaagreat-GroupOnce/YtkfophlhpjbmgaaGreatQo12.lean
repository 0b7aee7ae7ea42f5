/- The contracts of Forget and of release; no conditions but those that each states. -/
import Derived.Test.YtkfophlhpjbmgaaGreatQo11
set_option linter.unusedVariables false
set_option linter.unusedSimpArgs false
set_option maxRecDepth 100000
namespace Go.Proofs.YtkfophlhpjbmgaaGreat
open Go.RowKit Go.Maps Go.ChangeMaps
def fgE (X : Gp) (n : Int) (k : K) : Int := if tkE X n ≠ 0 then tkE X n else Ta.tForE k
def fgX (X : Gp) (n : Int) (k : K) : Gp := if fgE X n k ≠ 0 then X else { X with now := n, T := Ta.tRel (Ta.tFor X.T k) (Ta.tForR X.T k), en := Me.drx X.en k }
def fgV (X : Gp) (n : Int) (k : K) : Array Value := if fgE X n k ≠ 0 then #[.bool false, .int .i64 0, .int .i64 0, .bool false] else #[.bool (Me.hs (Me.keysL X.en) k), .int .i64 (Ta.tForN X.T k), .int .i64 (Ta.tForR X.T k), .bool (Ta.tRelC (Ta.tFor X.T k) (Ta.tForR X.T k))]
def fgC (X : Gp) (n : Int) (k : K) (N : Cn) : Cn := if tkE X n ≠ 0 then N else if Ta.tForE k ≠ 0 then { N with t := N.t + 1 } else { N with t := N.t + 2 }
def fgz : Array Value := #[.bool false, .int .i64 0, .int .i64 0, .bool false]
structure Bkf (w w' : World) (k : K) : Prop where
 k : w'.heap[w.heap.size]? = some (.cells #[.int .u16 k.1, .string k.2] 38 (0, 0))
 f : w'.heap[w.heap.size + 1]? = some (.cells fgz 74 (0, 0))
theorem Bkf.keep {w w1 w2 : World} {k : K} (h : Bkf w w1 k) (hk : Keeps w1 w2) : Bkf w w2 k := ⟨hk _ _ _ _ (by decide) h.k, hk _ _ _ _ (by decide) h.f⟩
theorem tFor_no {T : Ta.Tb} {k : K} (h : Ta.tForE k ≠ 0) : Ta.tFor T k = T := by
 unfold Ta.tForE at h
 unfold Ta.tFor
 cases hm : Ta.mayK k
 ·rfl
 ·rw [hm] at h; simp at h
theorem tForR_w {T : Ta.Tb} {M : Nat} (h : Ta.Ti T M) (hM : M ≤ 3000000000000) (k : K) : W64 (Ta.tForR T k) := by
 unfold Ta.tForR
 split
 ·cases hc : Ta.curOf T k with
  | none => exact W64.mk (by simp) (by simp)
  | some R =>
   obtain ⟨⟨S, hm⟩, -, -⟩ := Ta.curOf_some hc
   have h1 := h.rng _ hm
   have h2 := h.bg
   simp only at h1
   exact W64.mk (by simp; omega) (by simp; omega)
 ·exact W64.mk (by omega) (by omega)
theorem st4 {w : World} {b : Nat} {t : TypeId} {z0 z1 z2 z3 : Value} (h : w.heap[b]? = some (.cells #[z0, z1, z2, z3] t (0, 0))) (v0 v1 v2 v3 : Value) :
  ((((w.setCell ⟨b, 0, none⟩ v0).setCell ⟨b, 1, none⟩ v1).setCell ⟨b, 2, none⟩ v2).setCell ⟨b, 3, none⟩ v3).heap[b]? = some (.cells #[v0, v1, v2, v3] t (0, 0)) := by simp [World.setCell, Array.getElem?_modify, h]
section
variable {w : World} {g : Nat} {P : Pt} {F : List Nat} {X : Gp} {N : Cn}
set_option maxHeartbeats 16000000 in
theorem forget_ (h : Gq w g P F X N) (n : Int) (k : K) (hk : Ok k) (hN : N.t ≤ 2900000000000) : Calls Tryz.prog 19 #[PT g, .int .i64 n, kv k] w fun e w' => e = .returned (.tuple #[.agg (fgV X n k), .int .i64 (fgE X n k)]) ∧ GqE w w' g P F (fgX X n k) (fgC X n k N) := by
 obtain ⟨V, hV⟩ : ∃ V, V = (w.alloc (Ta.bxK k)).alloc (.cells fgz 74) := ⟨_, rfl⟩
 have tv : Touch [] w V := by rw [hV]; exact ((Touch.refl _ _).alloc _).alloc _
 have hb : Bkf w V k := by
  constructor
  ·rw [hV]; exact ((Touch.refl [] _).alloc _).keep (heap_alloc_new w _) (by simp)
  ·rw [hV]
   have := heap_alloc_new (w.alloc (Ta.bxK k)) (.cells fgz 74)
   rwa [World.size_alloc] at this
 have Q0 : GqE w V g P F X N := GqE.same h tv
 have HC := hid (check_at Q0 n)
 have hw := tForR_w h.iv.2.1 (by omega) k
 have HFo : Hid (∀ w1, GqE w w1 g P F X N → Bkf w w1 k → Calls Tryz.prog 56 #[PT P.t, kv k] w1 fun e w2 => e = .returned (.tuple #[.int .i64 (Ta.tForN X.T k), .int .i64 (Ta.tForR X.T k), .int .i64 (Ta.tForE k)]) ∧ GqE w w2 g P F { X with T := Ta.tFor X.T k } { N with t := N.t + 1 } ∧ Bkf w w2 k) := hid (fun w1 Q B => (tfor_at Q (by omega) k hk).mono (fun e w2 hh => ⟨hh.1, hh.2.1, B.keep hh.2.2⟩))
 have HW : Hid (∀ w1, GqE w w1 g P F { X with T := Ta.tFor X.T k } { N with t := N.t + 1 } → Bkf w w1 k → GqE w (w1.setCell ⟨g, 4, none⟩ (.int .i64 n)) g P F { X with T := Ta.tFor X.T k, now := n } { N with t := N.t + 1 } ∧ Bkf w (w1.setCell ⟨g, 4, none⟩ (.int .i64 n)) k) := hid (fun w1 Q B => ⟨(Q.setNow n).1, B.keep (Q.setNow n).2⟩)
 have HRe : Hid (∀ w1, GqE w w1 g P F { X with T := Ta.tFor X.T k, now := n } { N with t := N.t + 1 } → Bkf w w1 k → Calls Tryz.prog 57 #[PT P.t, .int .i64 (Ta.tForR X.T k)] w1 fun e w2 => (∃ D E, e = .returned (.tuple #[.agg #[.bool (Ta.tRelC (Ta.tFor X.T k) (Ta.tForR X.T k)), .bool D], .int .i64 E])) ∧ GqE w w2 g P F { X with T := Ta.tRel (Ta.tFor X.T k) (Ta.tForR X.T k), now := n } { N with t := N.t + 2 } ∧ Bkf w w2 k) := hid (fun w1 Q B => (trel_at Q (by simp only; omega) hw).mono (fun e w2 hh => ⟨⟨_, _, hh.1⟩, hh.2.1, B.keep hh.2.2⟩))
 have HA : Hid (∀ w1 Y M o, GqE w w1 g P F Y M → Bkf w w1 k → GqE w (w1.alloc o) g P F Y M ∧ Bkf w (w1.alloc o) k) := hid (fun w1 Y M o Q B => ⟨Q.then0 ((Touch.refl _ _).alloc o), B.keep ((Touch.refl [] _).alloc o).keeps⟩)
 have HD : Hid (∀ w1, GqE w w1 g P F { X with T := Ta.tRel (Ta.tFor X.T k) (Ta.tForR X.T k), now := n } { N with t := N.t + 2 } → Bkf w w1 k → Calls Tryz.prog 58 #[PT P.m, kv k] w1.drew fun e w2 => e = .returned (.bool (Me.hs (Me.keysL X.en) k)) ∧ GqE w w2 g P F { X with T := Ta.tRel (Ta.tFor X.T k) (Ta.tForR X.T k), now := n, en := Me.drx X.en k } { N with t := N.t + 2 } ∧ Bkf w w2 k ∧ Keeps w1 w2) := hid (fun w1 Q B => (drop_at (Q.then0 (Touch.refl _ _).drew) k hk).mono (fun e w2 hh => ⟨hh.1, hh.2.1, (B.keep ((Touch.refl [] w1).drew).keeps).keep hh.2.2, (((Touch.refl [] w1).drew).keeps).trans hh.2.2⟩))
 have HF : Hid (∀ w2 w3 Y M, GqE w w2 g P F Y M → Bkf w w2 k → Touch [w.heap.size + 1] w2 w3 → GqE w w3 g P F Y M) := hid (fun w2 w3 Y M Q B T => Q.put B.f (by decide) (by omega) T)
 have HK : Hid (∀ w2 Y M, GqE w w2 g P F Y M → Bkf w w2 k → Kg w2 g P Y.now w.heap.size k ∧ w2.heap[w.heap.size + 1]? = some (.cells fgz 74 (0, 0))) := hid (fun w2 Y M Q B => ⟨⟨Q.cs, cell_at B.k rfl, cell_at B.k rfl⟩, B.f⟩)
 have HQ := hid Q0
 have HBV := hid hb
 have hfx : fgE X n k ≠ 0 → tkE X n = 0 → ({ X with T := Ta.tFor X.T k } : Gp) = X := fun e e0 => by
  unfold fgE at e
  rw [if_neg (by simp [e0])] at e
  rw [tFor_no e]
 have HFX := hid hfx
 clear h Q0 tv hb hk hN hw hfx
 unfold fgX fgV fgC
 have hE : fgE X n k = if tkE X n ≠ 0 then tkE X n else Ta.tForE k := rfl
 obtain ⟨C, hC⟩ : ∃ C, C = Ta.tRelC (Ta.tFor X.T k) (Ta.tForR X.T k) := ⟨_, rfl⟩
 obtain ⟨H, hH⟩ : ∃ H, H = Me.hs (Me.keysL X.en) k := ⟨_, rfl⟩
 rw [← hC] at HRe ⊢
 rw [← hH] at HD ⊢
 clear hC hH
 unfold Ta.bxK fgz at hV
 unfold fgz at HK
 unfold kv PT at *
 by_cases hz : tkE X n ≠ 0
 ·rw [if_pos hz] at hE
  rw [if_pos hz, hE, if_pos hz, if_pos hz]
  have hz' : (tkE X n != 0) = true := by simp [hz]
  clear HFo HW HRe HA HD HFX hz hE
  generalize tkE X n = E at *
  obtain ⟨-, hbj⟩ := HK.out _ _ _ HQ.out HBV.out
  have d0 := cell_at (j := 0) hbj rfl
  have d1 := cell_at (j := 1) hbj rfl
  have d2 := cell_at (j := 2) hbj rfl
  have d3 := cell_at (j := 3) hbj rfl
  have df := froz_at hbj
  clear hbj
  go_enter Tryz.func19, Tryz.ntmps19
  go_upto_region 1 with fail
  rw [← hV]
  clear hV
  go_wp2_with (go_at_call 43; refine HC.out.mono ?_; rintro e w1 ⟨rfl, rfl⟩)
  exact bodyPost_ret (v := .tuple #[.agg #[.bool false, .int .i64 0, .int .i64 0, .bool false], .int .i64 E]) (by simp [results, Tryz.results19, go_sem, d0, d1, d2, d3]) rfl ⟨rfl, HF.out _ _ _ _ HQ.out HBV.out (((((Touch.refl _ _).setCell (Or.inl (by simp)) _).setCell (Or.inl (by simp)) _).setCell (Or.inl (by simp)) _).setCell (Or.inl (by simp)) _)⟩
 ·rw [if_neg hz] at hE
  have hz0 : tkE X n = 0 := by simpa using hz
  rw [hz0] at HC
  rw [if_neg hz, hE]
  by_cases hf : Ta.tForE k ≠ 0
  ·rw [if_pos hf, if_pos hf, if_pos hf]
   have he := HFX.out (by rw [hE]; exact hf) hz0
   rw [he] at HFo
   have hf' : (Ta.tForE k != 0) = true := by simp [hf]
   clear HW HRe HA HD HFX hz hz0 hE hf he
   generalize Ta.tForE k = E at *
   generalize Ta.tForN X.T k = r1 at *
   generalize Ta.tForR X.T k = r2 at *
   go_enter Tryz.func19, Tryz.ntmps19
   go_upto_region 1 with fail
   rw [← hV]
   clear hV
   go_upto_region 4 with (go_at_call 43; refine HC.out.mono ?_; rintro e w1 ⟨rfl, rfl⟩)
   have HQd : Hid (GqE w w1.drew g P F X N) := hid (HQ.out.then0 (Touch.refl _ _).drew)
   have HBd : Hid (Bkf w w1.drew k) := hid (HBV.out.keep ((Touch.refl [] w1).drew).keeps)
   obtain ⟨s0, -⟩ := HK.out _ _ _ HQd.out HBd.out
   have C0 : ∀ w', Kg w' g P X.now w.heap.size k → w'.cell? ⟨g, 0, none⟩ = some (.pointer (some ⟨P.m, 0, none⟩)) := fun _ h => h.gm.c0
   have C1 : ∀ w', Kg w' g P X.now w.heap.size k → w'.cell? ⟨g, 1, none⟩ = some (.pointer (some ⟨P.t, 0, none⟩)) := fun _ h => h.gm.c1
   have K0 : ∀ w', Kg w' g P X.now w.heap.size k → w'.cell? ⟨w.heap.size, 0, none⟩ = some (.int .u16 k.1) := fun _ h => h.k0
   have K1 : ∀ w', Kg w' g P X.now w.heap.size k → w'.cell? ⟨w.heap.size, 1, none⟩ = some (.string k.2) := fun _ h => h.k1
   refine wp_region_H (S := fun w' => Kg w' g P X.now w.heap.size k) (by kernel_rfl) ?_
   refine wpH_take (i := 0) (v := (.pointer (some ⟨g, 0, none⟩))) (some 22) rfl rfl (by kernel_rfl) (by kernel_rfl) (by kernel_rfl) (fun _ _ _ h => h) (Or.inl ⟨by rfl, fun w' hS => (by go_simp)⟩) s0 ?_
   try simp only [Go.Act.put, Zx, Zy, Zz]
   refine wpH_take (i := 1) (v := (.pointer (some ⟨g, 0, none⟩))) (some 23) rfl rfl (by kernel_rfl) (by kernel_rfl) (by kernel_rfl) (fun _ _ _ h => h) (Or.inl ⟨by rfl, fun w' hS => (by go_simp)⟩) s0 ?_
   try simp only [Go.Act.put, Zx, Zy, Zz]
   refine wpH_take (i := 2) (v := (.pointer (some ⟨g, 0, none⟩))) (some 24) rfl rfl (by kernel_rfl) (by kernel_rfl) (by kernel_rfl) (fun _ _ _ h => h) (Or.inl ⟨by rfl, fun w' hS => (by go_simp)⟩) s0 ?_
   try simp only [Go.Act.put, Zx, Zy, Zz]
   refine wpH_take (i := 3) (v := (.pointer (some ⟨g, 1, none⟩))) (some 25) rfl rfl (by kernel_rfl) (by kernel_rfl) (by kernel_rfl) (fun _ _ _ h => h) (Or.inl ⟨by rfl, fun w' hS => (by go_simp)⟩) s0 ?_
   try simp only [Go.Act.put, Zx, Zy, Zz]
   refine wpH_take (i := 4) (v := (.pointer (some ⟨P.t, 0, none⟩))) (some 26) rfl rfl (by kernel_rfl) (by kernel_rfl) (by kernel_rfl) (fun _ _ _ h => h) (Or.inl ⟨by rfl, fun w' hS => (by have z0 := C1 _ hS; go_simp)⟩) s0 ?_
   try simp only [Go.Act.put, Zx, Zy, Zz]
   refine wpH_take (i := 5) (v := (.agg #[.int .u16 k.1, .string k.2])) (some 27) rfl rfl (by kernel_rfl) (by kernel_rfl) (by kernel_rfl) (fun _ _ _ h => h) (Or.inl ⟨by rfl, fun w' hS => (by have z0 := K0 _ hS; have z1 := K1 _ hS; go_simp)⟩) s0 ?_
   try simp only [Go.Act.put, Zx, Zy, Zz]
   refine wpH_call (i := 6) (o := { dst := some 28, op := Op.call { callee := Callee.value (Operand.func 56), args := #[Operand.tmp 26, Operand.tmp 27], argTypes := #[113, 38] }, type := 138, pos := _, after := #[{ on := 4, ground := Ground.data }, { on := 5, ground := Ground.data }], guard := none }) (by kernel_rfl) rfl (fun K' hK => ?_)
   rw [if_pos (by rfl)]
   go_simp
   refine (HFo.out _ HQd.out HBd.out).mono ?_
   rintro e w2 ⟨rfl, q2, b2⟩
   obtain ⟨s2, hbj⟩ := HK.out _ _ _ q2 b2
   have Q2 := hid q2
   have B2 := hid b2
   clear q2 b2
   refine hK.out _ _ s2 ?_
   clear hK
   try simp only [Go.Act.put, Zx, Zy, Zz]
   refine wpH_take (i := 7) (v := (.tuple #[(.int .i64 r1), (.int .i64 r2), (.int .i64 E)])) (some 21) rfl rfl (by kernel_rfl) (by kernel_rfl) (by kernel_rfl) (fun _ _ _ h => h) (Or.inl ⟨by rfl, fun w' hS => (by go_simp)⟩) s2 ?_
   try simp only [Go.Act.put, Zx, Zy, Zz]
   refine wpH_take (i := 8) (v := (.int .i64 r1)) (some 29) rfl rfl (by kernel_rfl) (by kernel_rfl) (by kernel_rfl) (fun _ _ _ h => h) (Or.inl ⟨by rfl, fun w' hS => (by go_simp)⟩) s2 ?_
   try simp only [Go.Act.put, Zx, Zy, Zz]
   refine wpH_take (i := 9) (v := (.int .i64 r2)) (some 30) rfl rfl (by kernel_rfl) (by kernel_rfl) (by kernel_rfl) (fun _ _ _ h => h) (Or.inl ⟨by rfl, fun w' hS => (by go_simp)⟩) s2 ?_
   try simp only [Go.Act.put, Zx, Zy, Zz]
   refine wpH_take (i := 10) (v := (.int .i64 E)) (some 31) rfl rfl (by kernel_rfl) (by kernel_rfl) (by kernel_rfl) (fun _ _ _ h => h) (Or.inl ⟨by rfl, fun w' hS => (by go_simp)⟩) s2 ?_
   try simp only [Go.Act.put, Zx, Zy, Zz]
   refine wpH_take (i := 11) (v := (.int .i64 r1)) (some 9) rfl rfl (by kernel_rfl) (by kernel_rfl) (by kernel_rfl) (fun _ _ _ h => h) (Or.inl ⟨by rfl, fun w' hS => (by go_simp)⟩) s2 ?_
   try simp only [Go.Act.put, Zx, Zy, Zz]
   refine wpH_take (i := 12) (v := (.int .i64 r2)) (some 10) rfl rfl (by kernel_rfl) (by kernel_rfl) (by kernel_rfl) (fun _ _ _ h => h) (Or.inl ⟨by rfl, fun w' hS => (by go_simp)⟩) s2 ?_
   try simp only [Go.Act.put, Zx, Zy, Zz]
   refine wpH_take (i := 13) (v := (.int .i64 E)) (some 11) rfl rfl (by kernel_rfl) (by kernel_rfl) (by kernel_rfl) (fun _ _ _ h => h) (Or.inl ⟨by rfl, fun w' hS => (by go_simp)⟩) s2 ?_
   try simp only [Go.Act.put, Zx, Zy, Zz]
   refine wpAnyH_done (by kernel_rfl) ?_ _
   clear C0 C1 K0 K1 s0 s2
   have d0 := cell_at (j := 0) hbj rfl
   have d1 := cell_at (j := 1) hbj rfl
   have d2 := cell_at (j := 2) hbj rfl
   have d3 := cell_at (j := 3) hbj rfl
   have df := froz_at hbj
   clear hbj
   go_wp2
   exact bodyPost_ret (v := .tuple #[.agg #[.bool false, .int .i64 0, .int .i64 0, .bool false], .int .i64 E]) (by simp [results, Tryz.results19, go_sem, d0, d1, d2, d3]) rfl ⟨rfl, HF.out _ _ _ _ Q2.out B2.out (((((Touch.refl _ _).setCell (Or.inl (by simp)) _).setCell (Or.inl (by simp)) _).setCell (Or.inl (by simp)) _).setCell (Or.inl (by simp)) _)⟩
  ·have hf0 : Ta.tForE k = 0 := by simpa using hf
   rw [if_neg hf, if_neg hf, if_neg hf, hf0]
   rw [hf0] at HFo
   have HG : Hid (∀ w1 Y M, GqE w w1 g P F Y M → GmC w1 g P Y.now) := hid (fun w1 Y M Q => Q.cs)
   clear HFX hz hz0 hE hf hf0
   generalize Ta.tForN X.T k = r1 at *
   generalize hT1 : Ta.tFor X.T k = T1 at *
   clear hT1
   generalize hr2 : Ta.tForR X.T k = r2 at *
   clear hr2
   generalize hT2 : Ta.tRel T1 r2 = T2 at *
   clear hT2
   generalize Me.drx X.en k = en2 at *
   go_enter Tryz.func19, Tryz.ntmps19
   go_upto_region 1 with fail
   rw [← hV]
   clear hV
   go_upto_region 4 with (go_at_call 43; refine HC.out.mono ?_; rintro e w1 ⟨rfl, rfl⟩)
   have HQd : Hid (GqE w w1.drew g P F X N) := hid (HQ.out.then0 (Touch.refl _ _).drew)
   have HBd : Hid (Bkf w w1.drew k) := hid (HBV.out.keep ((Touch.refl [] w1).drew).keeps)
   obtain ⟨s0, -⟩ := HK.out _ _ _ HQd.out HBd.out
   have C0 : ∀ w', Kg w' g P X.now w.heap.size k → w'.cell? ⟨g, 0, none⟩ = some (.pointer (some ⟨P.m, 0, none⟩)) := fun _ h => h.gm.c0
   have C1 : ∀ w', Kg w' g P X.now w.heap.size k → w'.cell? ⟨g, 1, none⟩ = some (.pointer (some ⟨P.t, 0, none⟩)) := fun _ h => h.gm.c1
   have K0 : ∀ w', Kg w' g P X.now w.heap.size k → w'.cell? ⟨w.heap.size, 0, none⟩ = some (.int .u16 k.1) := fun _ h => h.k0
   have K1 : ∀ w', Kg w' g P X.now w.heap.size k → w'.cell? ⟨w.heap.size, 1, none⟩ = some (.string k.2) := fun _ h => h.k1
   refine wp_region_H (S := fun w' => Kg w' g P X.now w.heap.size k) (by kernel_rfl) ?_
   refine wpH_take (i := 0) (v := (.pointer (some ⟨g, 0, none⟩))) (some 22) rfl rfl (by kernel_rfl) (by kernel_rfl) (by kernel_rfl) (fun _ _ _ h => h) (Or.inl ⟨by rfl, fun w' hS => (by go_simp)⟩) s0 ?_
   try simp only [Go.Act.put, Zx, Zy, Zz]
   refine wpH_take (i := 1) (v := (.pointer (some ⟨g, 0, none⟩))) (some 23) rfl rfl (by kernel_rfl) (by kernel_rfl) (by kernel_rfl) (fun _ _ _ h => h) (Or.inl ⟨by rfl, fun w' hS => (by go_simp)⟩) s0 ?_
   try simp only [Go.Act.put, Zx, Zy, Zz]
   refine wpH_take (i := 2) (v := (.pointer (some ⟨g, 0, none⟩))) (some 24) rfl rfl (by kernel_rfl) (by kernel_rfl) (by kernel_rfl) (fun _ _ _ h => h) (Or.inl ⟨by rfl, fun w' hS => (by go_simp)⟩) s0 ?_
   try simp only [Go.Act.put, Zx, Zy, Zz]
   refine wpH_take (i := 3) (v := (.pointer (some ⟨g, 1, none⟩))) (some 25) rfl rfl (by kernel_rfl) (by kernel_rfl) (by kernel_rfl) (fun _ _ _ h => h) (Or.inl ⟨by rfl, fun w' hS => (by go_simp)⟩) s0 ?_
   try simp only [Go.Act.put, Zx, Zy, Zz]
   refine wpH_take (i := 4) (v := (.pointer (some ⟨P.t, 0, none⟩))) (some 26) rfl rfl (by kernel_rfl) (by kernel_rfl) (by kernel_rfl) (fun _ _ _ h => h) (Or.inl ⟨by rfl, fun w' hS => (by have z0 := C1 _ hS; go_simp)⟩) s0 ?_
   try simp only [Go.Act.put, Zx, Zy, Zz]
   refine wpH_take (i := 5) (v := (.agg #[.int .u16 k.1, .string k.2])) (some 27) rfl rfl (by kernel_rfl) (by kernel_rfl) (by kernel_rfl) (fun _ _ _ h => h) (Or.inl ⟨by rfl, fun w' hS => (by have z0 := K0 _ hS; have z1 := K1 _ hS; go_simp)⟩) s0 ?_
   try simp only [Go.Act.put, Zx, Zy, Zz]
   refine wpH_call (i := 6) (o := { dst := some 28, op := Op.call { callee := Callee.value (Operand.func 56), args := #[Operand.tmp 26, Operand.tmp 27], argTypes := #[113, 38] }, type := 138, pos := _, after := #[{ on := 4, ground := Ground.data }, { on := 5, ground := Ground.data }], guard := none }) (by kernel_rfl) rfl (fun K' hK => ?_)
   rw [if_pos (by rfl)]
   go_simp
   refine (HFo.out _ HQd.out HBd.out).mono ?_
   rintro e w2 ⟨rfl, q2, b2⟩
   obtain ⟨s2, hbj⟩ := HK.out _ _ _ q2 b2
   have Q2 := hid q2
   have B2 := hid b2
   clear q2 b2
   refine hK.out _ _ s2 ?_
   clear hK
   try simp only [Go.Act.put, Zx, Zy, Zz]
   refine wpH_take (i := 7) (v := (.tuple #[(.int .i64 r1), (.int .i64 r2), (.int .i64 0)])) (some 21) rfl rfl (by kernel_rfl) (by kernel_rfl) (by kernel_rfl) (fun _ _ _ h => h) (Or.inl ⟨by rfl, fun w' hS => (by go_simp)⟩) s2 ?_
   try simp only [Go.Act.put, Zx, Zy, Zz]
   refine wpH_take (i := 8) (v := (.int .i64 r1)) (some 29) rfl rfl (by kernel_rfl) (by kernel_rfl) (by kernel_rfl) (fun _ _ _ h => h) (Or.inl ⟨by rfl, fun w' hS => (by go_simp)⟩) s2 ?_
   try simp only [Go.Act.put, Zx, Zy, Zz]
   refine wpH_take (i := 9) (v := (.int .i64 r2)) (some 30) rfl rfl (by kernel_rfl) (by kernel_rfl) (by kernel_rfl) (fun _ _ _ h => h) (Or.inl ⟨by rfl, fun w' hS => (by go_simp)⟩) s2 ?_
   try simp only [Go.Act.put, Zx, Zy, Zz]
   refine wpH_take (i := 10) (v := (.int .i64 0)) (some 31) rfl rfl (by kernel_rfl) (by kernel_rfl) (by kernel_rfl) (fun _ _ _ h => h) (Or.inl ⟨by rfl, fun w' hS => (by go_simp)⟩) s2 ?_
   try simp only [Go.Act.put, Zx, Zy, Zz]
   refine wpH_take (i := 11) (v := (.int .i64 r1)) (some 9) rfl rfl (by kernel_rfl) (by kernel_rfl) (by kernel_rfl) (fun _ _ _ h => h) (Or.inl ⟨by rfl, fun w' hS => (by go_simp)⟩) s2 ?_
   try simp only [Go.Act.put, Zx, Zy, Zz]
   refine wpH_take (i := 12) (v := (.int .i64 r2)) (some 10) rfl rfl (by kernel_rfl) (by kernel_rfl) (by kernel_rfl) (fun _ _ _ h => h) (Or.inl ⟨by rfl, fun w' hS => (by go_simp)⟩) s2 ?_
   try simp only [Go.Act.put, Zx, Zy, Zz]
   refine wpH_take (i := 13) (v := (.int .i64 0)) (some 11) rfl rfl (by kernel_rfl) (by kernel_rfl) (by kernel_rfl) (fun _ _ _ h => h) (Or.inl ⟨by rfl, fun w' hS => (by go_simp)⟩) s2 ?_
   try simp only [Go.Act.put, Zx, Zy, Zz]
   refine wpAnyH_done (by kernel_rfl) ?_ _
   clear C0 C1 K0 K1 s0 hbj
   have g4 := s2.gm.f4
   have c4 := s2.gm.c4
   obtain ⟨q3, b3⟩ := HW.out _ Q2.out B2.out
   go_upto_region 8 with fail
   obtain ⟨W3, hW3⟩ : ∃ W3, W3 = w2.setCell ⟨g, 4, none⟩ (.int .i64 n) := ⟨_, rfl⟩
   rw [← hW3] at q3 b3 ⊢
   have c1 := (HG.out _ _ _ q3).c1
   have Q3 := hid q3
   have B3 := hid b3
   clear hW3 q3 b3 g4 c4 s2
   go_upto_region 9 with (go_at_call 57; refine (HRe.out _ Q3.out B3.out).mono ?_; rintro e w4 ⟨⟨D, E, rfl⟩, q4, b4⟩; have Q4 := hid q4; have B4 := hid b4; clear q4 b4 c1)
   obtain ⟨W5, hW5⟩ : ∃ W5, W5 = w4.alloc (.cells #[.bool C, .bool D] 141) := ⟨_, rfl⟩
   have h8 := heap_alloc_new w4 (.cells #[.bool C, .bool D] 141)
   obtain ⟨q5, b5⟩ := HA.out _ _ _ (.cells #[.bool C, .bool D] 141) Q4.out B4.out
   rw [← hW5] at h8 q5 b5 ⊢
   have Q5 := hid q5
   have B5 := hid b5
   have Z8 : Hid (w.heap.size + 2 ≤ w4.heap.size) := hid (by have := block_lt B4.out.f; omega)
   obtain ⟨s5, -⟩ := HK.out _ _ _ q5 b5
   have s5' : Kg W5.drew g P n w.heap.size k ∧ W5.drew.cell? ⟨w4.heap.size, 0, none⟩ = some (.bool C) := ⟨⟨⟨s5.gm.c0, s5.gm.c1, s5.gm.c2, s5.gm.c3, s5.gm.c4, s5.gm.f4⟩, s5.k0, s5.k1⟩, cell_at (((Touch.refl [] W5).drew).keep h8 (by simp)) rfl⟩
   clear hW5 q5 b5 s5
   have C0 : ∀ w', (Kg w' g P n w.heap.size k ∧ w'.cell? ⟨w4.heap.size, 0, none⟩ = some (.bool C)) → w'.cell? ⟨g, 0, none⟩ = some (.pointer (some ⟨P.m, 0, none⟩)) := fun _ h => h.1.gm.c0
   have K0 : ∀ w', (Kg w' g P n w.heap.size k ∧ w'.cell? ⟨w4.heap.size, 0, none⟩ = some (.bool C)) → w'.cell? ⟨w.heap.size, 0, none⟩ = some (.int .u16 k.1) := fun _ h => h.1.k0
   have K1 : ∀ w', (Kg w' g P n w.heap.size k ∧ w'.cell? ⟨w4.heap.size, 0, none⟩ = some (.bool C)) → w'.cell? ⟨w.heap.size, 1, none⟩ = some (.string k.2) := fun _ h => h.1.k1
   have G0 : ∀ w', (Kg w' g P n w.heap.size k ∧ w'.cell? ⟨w4.heap.size, 0, none⟩ = some (.bool C)) → w'.cell? ⟨w4.heap.size, 0, none⟩ = some (.bool C) := fun _ h => h.2
   refine wp_region_H (S := fun w' => Kg w' g P n w.heap.size k ∧ w'.cell? ⟨w4.heap.size, 0, none⟩ = some (.bool C)) (by kernel_rfl) ?_
   refine wpH_take (i := 0) (v := (.pointer (some ⟨g, 0, none⟩))) (some 50) rfl rfl (by kernel_rfl) (by kernel_rfl) (by kernel_rfl) (fun _ _ _ h => h) (Or.inl ⟨by rfl, fun w' hS => (by go_simp)⟩) s5' ?_
   try simp only [Go.Act.put, Zx, Zy, Zz]
   refine wpH_take (i := 1) (v := (.pointer (some ⟨g, 0, none⟩))) (some 51) rfl rfl (by kernel_rfl) (by kernel_rfl) (by kernel_rfl) (fun _ _ _ h => h) (Or.inl ⟨by rfl, fun w' hS => (by go_simp)⟩) s5' ?_
   try simp only [Go.Act.put, Zx, Zy, Zz]
   refine wpH_take (i := 2) (v := (.pointer (some ⟨g, 0, none⟩))) (some 52) rfl rfl (by kernel_rfl) (by kernel_rfl) (by kernel_rfl) (fun _ _ _ h => h) (Or.inl ⟨by rfl, fun w' hS => (by go_simp)⟩) s5' ?_
   try simp only [Go.Act.put, Zx, Zy, Zz]
   refine wpH_take (i := 3) (v := (.pointer (some ⟨g, 0, none⟩))) (some 53) rfl rfl (by kernel_rfl) (by kernel_rfl) (by kernel_rfl) (fun _ _ _ h => h) (Or.inl ⟨by rfl, fun w' hS => (by go_simp)⟩) s5' ?_
   try simp only [Go.Act.put, Zx, Zy, Zz]
   refine wpH_take (i := 4) (v := (.pointer (some ⟨P.m, 0, none⟩))) (some 54) rfl rfl (by kernel_rfl) (by kernel_rfl) (by kernel_rfl) (fun _ _ _ h => h) (Or.inl ⟨by rfl, fun w' hS => (by have z0 := C0 _ hS; go_simp)⟩) s5' ?_
   try simp only [Go.Act.put, Zx, Zy, Zz]
   refine wpH_take (i := 5) (v := (.agg #[.int .u16 k.1, .string k.2])) (some 55) rfl rfl (by kernel_rfl) (by kernel_rfl) (by kernel_rfl) (fun _ _ _ h => h) (Or.inl ⟨by rfl, fun w' hS => (by have z0 := K0 _ hS; have z1 := K1 _ hS; go_simp)⟩) s5' ?_
   try simp only [Go.Act.put, Zx, Zy, Zz]
   refine wpH_take (i := 7) (v := (.int .i64 r1)) (some 57) rfl rfl (by kernel_rfl) (by kernel_rfl) (by kernel_rfl) (fun _ _ _ h => h) (Or.inl ⟨by rfl, fun w' hS => (by go_simp)⟩) s5' ?_
   try simp only [Go.Act.put, Zx, Zy, Zz]
   refine wpH_take (i := 8) (v := (.int .i64 r2)) (some 58) rfl rfl (by kernel_rfl) (by kernel_rfl) (by kernel_rfl) (fun _ _ _ h => h) (Or.inl ⟨by rfl, fun w' hS => (by go_simp)⟩) s5' ?_
   try simp only [Go.Act.put, Zx, Zy, Zz]
   refine wpH_take (i := 9) (v := (.pointer (some ⟨w4.heap.size, 0, none⟩))) (some 59) rfl rfl (by kernel_rfl) (by kernel_rfl) (by kernel_rfl) (fun _ _ _ h => h) (Or.inl ⟨by rfl, fun w' hS => (by go_simp)⟩) s5' ?_
   try simp only [Go.Act.put, Zx, Zy, Zz]
   refine wpH_take (i := 10) (v := (.bool C)) (some 60) rfl rfl (by kernel_rfl) (by kernel_rfl) (by kernel_rfl) (fun _ _ _ h => h) (Or.inl ⟨by rfl, fun w' hS => (by have z0 := G0 _ hS; go_simp)⟩) s5' ?_
   try simp only [Go.Act.put, Zx, Zy, Zz]
   refine wpH_call (i := 6) (o := { dst := some 56, op := Op.call { callee := Callee.value (Operand.func 58), args := #[Operand.tmp 54, Operand.tmp 55], argTypes := #[99, 38] }, type := 4, pos := _, after := #[{ on := 4, ground := Ground.data }, { on := 5, ground := Ground.data }], guard := none }) (by kernel_rfl) rfl (fun K' hK => ?_)
   rw [if_pos (by rfl)]
   go_simp
   refine (HD.out _ Q5.out B5.out).mono ?_
   rintro e w6 ⟨rfl, q6, b6, k6⟩
   have h8 := k6 _ _ _ _ (by decide) h8
   obtain ⟨s6, hbj⟩ := HK.out _ _ _ q6 b6
   have S6 : Kg w6 g P n w.heap.size k ∧ w6.cell? ⟨w4.heap.size, 0, none⟩ = some (.bool C) := ⟨s6, cell_at h8 rfl⟩
   have Q6 := hid q6
   have B6 := hid b6
   clear q6 b6 k6 s6
   refine hK.out _ _ S6 ?_
   clear hK
   try simp only [Go.Act.put, Zx, Zy, Zz]
   refine wpH_take (i := 11) (v := (.agg #[.bool H, .int .i64 r1, .int .i64 r2, .bool C])) (some 61) rfl rfl (by kernel_rfl) (by kernel_rfl) (by kernel_rfl) (fun _ _ _ h => h) (Or.inl ⟨by rfl, fun w' hS => (by go_simp)⟩) S6 ?_
   try simp only [Go.Act.put, Zx, Zy, Zz]
   refine wpH_call (i := 12) (o := { dst := none, op := Op.store 74 (Operand.tmp 6) (Operand.tmp 61), type := 0, pos := _, after := #[{ on := 11, ground := Ground.data }, { on := 6, ground := Ground.chain }, { on := 0, ground := Ground.phase }, { on := 1, ground := Ground.phase }, { on := 2, ground := Ground.phase }, { on := 3, ground := Ground.phase }, { on := 4, ground := Ground.phase }, { on := 5, ground := Ground.phase }, { on := 6, ground := Ground.phase }, { on := 7, ground := Ground.phase }, { on := 8, ground := Ground.phase }, { on := 9, ground := Ground.phase }, { on := 10, ground := Ground.phase }, { on := 11, ground := Ground.phase }], guard := none }) (by kernel_rfl) rfl (fun K' hK => ?_)
   rw [if_pos (by rfl)]
   have d0 := cell_at (j := 0) hbj rfl
   have d1 := cell_at (j := 1) hbj rfl
   have d2 := cell_at (j := 2) hbj rfl
   have d3 := cell_at (j := 3) hbj rfl
   have df := froz_at hbj
   go_simp
   obtain ⟨W7, hW7⟩ : ∃ W7, W7 = (((w6.setCell ⟨w.heap.size + 1, 0, none⟩ (.bool H)).setCell ⟨w.heap.size + 1, 1, none⟩ (.int .i64 r1)).setCell ⟨w.heap.size + 1, 2, none⟩ (.int .i64 r2)).setCell ⟨w.heap.size + 1, 3, none⟩ (.bool C) := ⟨_, rfl⟩
   have t7 : Touch [w.heap.size + 1] w6 W7 := by rw [hW7]; exact (((((Touch.refl _ _).setCell (Or.inl (by simp)) _).setCell (Or.inl (by simp)) _).setCell (Or.inl (by simp)) _).setCell (Or.inl (by simp)) _)
   have h7 := st4 hbj (.bool H) (.int .i64 r1) (.int .i64 r2) (.bool C)
   rw [← hW7] at h7 ⊢
   have q7 := HF.out _ _ _ _ Q6.out B6.out t7
   have S7 : Kg W7 g P n w.heap.size k ∧ W7.cell? ⟨w4.heap.size, 0, none⟩ = some (.bool C) := ⟨⟨HG.out _ _ _ q7, cell_at (t7.keep B6.out.k (by simp)) rfl, cell_at (t7.keep B6.out.k (by simp)) rfl⟩, cell_at (t7.keep h8 (by have := Z8.out; simp; omega)) rfl⟩
   have Q7 := hid q7
   clear hW7 t7 q7 hbj
   clear d0 d1 d2 d3 df
   refine hK.out _ _ S7 ?_
   clear hK
   try simp only [Go.Act.put, Zx, Zy, Zz]
   refine wpH_take (i := 13) (v := (.int .i64 0)) (some 7) rfl rfl (by kernel_rfl) (by kernel_rfl) (by kernel_rfl) (fun _ _ _ h => h) (Or.inl ⟨by rfl, fun w' hS => (by go_simp)⟩) S7 ?_
   try simp only [Go.Act.put, Zx, Zy, Zz]
   refine wpAnyH_done (by kernel_rfl) ?_ _
   have d0 := cell_at (j := 0) h7 rfl
   have d1 := cell_at (j := 1) h7 rfl
   have d2 := cell_at (j := 2) h7 rfl
   have d3 := cell_at (j := 3) h7 rfl
   clear h7
   go_wp2
   exact bodyPost_ret (v := .tuple #[.agg #[.bool H, .int .i64 r1, .int .i64 r2, .bool C], .int .i64 0]) (by simp [results, Tryz.results19, go_sem, d0, d1, d2, d3]) rfl ⟨rfl, Q7.out⟩
end
end Go.Proofs.YtkfophlhpjbmgaaGreat
/- The contract of release; no conditions but those that it states. -/
namespace Go.Proofs.YtkfophlhpjbmgaaGreat
open Go.RowKit Go.Maps Go.ChangeMaps
def rlR (X : Gp) (k : K) : Int := ((Ta.curOf X.T k).map Ta.Rn.run).getD 0
def rlX (X : Gp) : List K → Gp
 | [] => X
 | k :: _ => { X with T := Ta.tRel X.T (rlR X k) }
def rlL (X : Gp) : List K → List Int
 | [] => []
 | k :: _ => if Ta.tRelC X.T (rlR X k) then [rlR X k] else []
theorem rlR_w {X : Gp} {M : Nat} (h : Ta.Ti X.T M) (hM : M ≤ 3000000000000) (k : K) : W64 (rlR X k) := by
 unfold rlR
 cases hc : Ta.curOf X.T k with
 | none => exact W64.mk (by simp) (by simp)
 | some R =>
  obtain ⟨⟨S, hm⟩, -, -⟩ := Ta.curOf_some hc
  have h1 := h.rng _ hm
  have h2 := h.bg
  simp only at h1
  exact W64.mk (by simp; omega) (by simp; omega)
theorem RT_keeps {w w' : World} {v : Value} {xs : List K} (h : Me.RT 38 w v xs) (hk : Keeps w w') : Me.RT 38 w' v xs := own_keep h (fun b hb => by
 obtain ⟨cs, hc⟩ := own_kind h hb
 rw [hc]
 exact hk _ _ _ _ (by decide) hc)
theorem info3z : (Tryz.prog.info? 3).map (fun i => (i.zero, i.size, i.bytes)) = some (some (.int .i64 0), 1, 8) := by kernel_rfl
def RlI (w wr : World) (g : Nat) (P : Pt) (F : List Nat) (X : Gp) (N : Cn) (v : Value) (gs : List K) (i : Nat) (lv : Value) : Prop := Me.RT 38 wr v gs ∧ ((i = 0 ∧ lv = .slice none 0 0 ∧ GqE w wr g P F X N) ∨ (i = gs.length ∧ 0 < i ∧ Snt wr lv (rlL X gs) ∧ GqE w wr g P F (rlX X gs) { N with t := N.t + 1 }))
section
variable {w : World} {g : Nat} {P : Pt} {F : List Nat} {X : Gp} {N : Cn}
set_option maxHeartbeats 16000000 in
theorem release_ (h : Gq w g P F X N) (v : Value) (gs : List K) (hv : Me.RT 38 w v gs) (hl : gs.length ≤ 1) (hok : ∀ k ∈ gs, Ok k) (hN : N.t ≤ 2900000000000) : Calls Tryz.prog 49 #[PT g, v] w fun e w' => ∃ v', e = .returned v' ∧ Snt w' v' (rlL X gs) ∧ GqE w w' g P F (rlX X gs) { N with t := N.t + gs.length } := by
 have H0 : Hid (RlI w w g P F X N v gs 0 (.slice none 0 0)) := hid ⟨hv, Or.inl ⟨rfl, rfl, GqE.refl h⟩⟩
 obtain ⟨av, cv, rfl⟩ : ∃ a c, v = .slice a gs.length c := by obtain ⟨a, c, e, _⟩ := hv.form; exact ⟨a, c, e⟩
 have hw := fun k => rlR_w h.iv.2.1 (by omega) k
 have HW := hid hw
 have HNN := hid hN
 have HOK := hid hok
 have HL := hid hl
 obtain ⟨m, hm⟩ : ∃ m, m = gs.length := ⟨_, rfl⟩
 have HM := hid hm
 rw [← hm] at H0 ⊢
 clear h hv hw hN hok hl hm
 unfold PT at *
 go_enter Tryz.func49, Tryz.ntmps49
 go_wp2
 go_loopw [5, 14] (fun s5 s14 wr => ∃ i : Nat, s14 = .int .i64 (i : Int) ∧ i ≤ m ∧ ∃ a5 n5 c5, s5 = .slice a5 n5 c5 ∧ Hid (RlI w wr g P F X N (.slice av m cv) gs i (.slice a5 n5 c5))) (fun _ i _ => m - (intOf i).toNat)
 case atStart => exact ⟨0, rfl, Nat.zero_le _, none, 0, 0, rfl, H0⟩
 case round =>
  clear H0
  obtain ⟨i, rfl, hi, a5, n5, c5, rfl, HR⟩ := hrel
  by_cases hlt : i < m
  ·have zi : (i : Int) < (m : Int) := by omega
   have zL : (m : Int) < 9223372036854775807 := by have := HL.out; have := HM.out; omega
   obtain ⟨k, hk⟩ : ∃ k, gs = [k] := by
    have h1 := HL.out
    have h2 := HM.out
    match gs, h1, h2 with
    | [], _, h2 => simp at h2; omega
    | [k], _, _ => exact ⟨k, rfl⟩
    | _ :: _ :: _, h1, _ => simp at h1
   subst hk
   have hm1 : m = 1 := by have := HM.out; simpa using this
   subst hm1
   have hi0 : i = 0 := by omega
   subst hi0
   obtain ⟨V1, hV1⟩ : ∃ V1, V1 = wr.alloc (.cells #[.int .u16 k.1, .string k.2] 38) := ⟨_, rfl⟩
   have hR := HR.out
   obtain ⟨rt, ⟨-, e5, Q⟩ | ⟨e, e0, _⟩⟩ := hR
   case inr => omega
   simp only [Value.slice.injEq] at e5
   obtain ⟨rfl, rfl, rfl⟩ := e5
   obtain ⟨gg, hg, e0, e1⟩ : ∃ gg, av = some ⟨gg, 0, none⟩ ∧ wr.cell? ⟨gg, 0, none⟩ = some (.int .u16 k.1) ∧ wr.cell? ⟨gg, 1, none⟩ = some (.string k.2) := by
    obtain ⟨a, c, e, hc⟩ := rt.form
    obtain ⟨gg, hgg⟩ := hc 0 (by simp)
    simp only [Value.slice.injEq] at e
    obtain ⟨rfl, -, rfl⟩ := e
    subst hgg
    have := rt.cells 0 (by simp)
    exact ⟨gg, rfl, by simpa using this.1, by simpa using this.2⟩
   subst hg
   have tv1 : Touch [] wr V1 := by rw [hV1]; exact (Touch.refl _ _).alloc _
   have hb1 : V1.heap[wr.heap.size]? = some (.cells #[.int .u16 k.1, .string k.2] 38 (0, 0)) := by rw [hV1]; exact heap_alloc_new wr _
   have Q1 : GqE w V1.drew g P F X N := (Q.then0 tv1).then0 (Touch.refl _ _).drew
   have R1 := RT_keeps (RT_keeps rt tv1.keeps) ((Touch.refl [] V1).drew).keeps
   have hb1' := ((Touch.refl [] V1).drew).keep hb1 (by simp)
   have hk : Ok k := HOK.out k (by simp)
   have HC : Hid (Calls Tryz.prog 61 #[PT P.t, kv k] V1.drew fun e w2 => e = .returned (.tuple #[.int .i64 (rlR X k), .bool (Ta.curOf X.T k).isSome]) ∧ GqE w w2 g P F X N ∧ Me.RT 38 w2 (.slice (some ⟨gg, 0, none⟩) 1 cv) [k] ∧ w2.heap[wr.heap.size]? = some (.cells #[.int .u16 k.1, .string k.2] 38 (0, 0))) := hid ((cur_at Q1 k hk).mono (fun e w2 hh => ⟨hh.1, hh.2.1, RT_keeps R1 hh.2.2, hh.2.2 _ _ _ _ (by decide) hb1'⟩))
   have HRe : Hid (∀ w1, GqE w w1 g P F X N → Me.RT 38 w1 (.slice (some ⟨gg, 0, none⟩) 1 cv) [k] → Calls Tryz.prog 57 #[PT P.t, .int .i64 (rlR X k)] w1 fun e w2 => (∃ D E, e = .returned (.tuple #[.agg #[.bool (Ta.tRelC X.T (rlR X k)), .bool D], .int .i64 E])) ∧ GqE w w2 g P F (rlX X [k]) { N with t := N.t + 1 } ∧ Me.RT 38 w2 (.slice (some ⟨gg, 0, none⟩) 1 cv) [k]) := hid (fun w1 Q R => (trel_at Q (by have := HNN.out; omega) (HW.out k)).mono (fun e w2 hh => ⟨⟨_, _, hh.1⟩, hh.2.1, RT_keeps R hh.2.2⟩))
   have HK : Hid (∀ w2, GqE w w2 g P F X N → w2.heap[wr.heap.size]? = some (.cells #[.int .u16 k.1, .string k.2] 38 (0, 0)) → Kg w2 g P X.now wr.heap.size k) := hid (fun w2 Q B => ⟨Q.cs, cell_at B rfl, cell_at B rfl⟩)
   have HE : Hid (∀ w1 o lv, GqE w w1 g P F (rlX X [k]) { N with t := N.t + 1 } → Me.RT 38 w1 (.slice (some ⟨gg, 0, none⟩) 1 cv) [k] → Snt (w1.alloc o) lv (rlL X [k]) → RlI w (w1.alloc o) g P F X N (.slice (some ⟨gg, 0, none⟩) 1 cv) [k] 1 lv) := hid (fun w1 o lv Q R s => ⟨RT_keeps R ((Touch.refl [] _).alloc o).keeps, Or.inr ⟨rfl, by omega, s, Q.then0 ((Touch.refl _ _).alloc o)⟩⟩)
   have HEG : Hid (∀ (w1 w3 : World) (o o2 : Obj) lv, GqE w w1 g P F (rlX X [k]) { N with t := N.t + 1 } → Me.RT 38 w1 (.slice (some ⟨gg, 0, none⟩) 1 cv) [k] → ((w1.alloc o).alloc o2).grownBy w3 none → w3.ownsRow w1.heap.size 3 1 lv 1 [.int .i64 (rlR X k)] → Ta.tRelC X.T (rlR X k) = true → RlI w w3 g P F X N (.slice (some ⟨gg, 0, none⟩) 1 cv) [k] 1 lv) := hid (fun w1 w3 o o2 lv Q R hg ho hc => by
    have t3 : Touch [] w1 w3 := (((Touch.refl [] w1).alloc o).alloc o2).grown hg (fun q hq => by cases hq)
    have e1 : rlL X [k] = [rlR X k] := by simp only [rlL, hc, if_true]
    refine ⟨RT_keeps R t3.keeps, Or.inr ⟨rfl, by omega, ?_, Q.then0 t3⟩⟩
    rw [e1]
    obtain ⟨a, c, e⟩ := own_form ho
    exact ⟨Rd.of_own (by simpa [ints] using ho), a, _, c, e⟩)
   have HS0 : Hid (Ta.tRelC X.T (rlR X k) = false → ∀ w2, Snt w2 (.slice none 0 0) (rlL X [k])) := hid (fun e w2 => by simp only [rlL, e, Bool.false_eq_true, if_false]; exact Snt.nil w2)
   have s0 : Kg V1.drew g P X.now wr.heap.size k := HK.out _ Q1 hb1'
   have C1 : ∀ w', Kg w' g P X.now wr.heap.size k → w'.cell? ⟨g, 1, none⟩ = some (.pointer (some ⟨P.t, 0, none⟩)) := fun _ h => h.gm.c1
   have K0 : ∀ w', Kg w' g P X.now wr.heap.size k → w'.cell? ⟨wr.heap.size, 0, none⟩ = some (.int .u16 k.1) := fun _ h => h.k0
   have K1 : ∀ w', Kg w' g P X.now wr.heap.size k → w'.cell? ⟨wr.heap.size, 1, none⟩ = some (.string k.2) := fun _ h => h.k1
   clear HR rt Q tv1 hb1 Q1 R1 hb1' hk hi hlt
   have HGM : Hid (∀ w2, GqE w w2 g P F X N → GmC w2 g P X.now) := hid (fun w2 Q => Q.cs)
   generalize Ta.tRelC X.T (rlR X k) = C at *
   generalize (Ta.curOf X.T k).isSome = B at *
   generalize rlR X k = r at *
   unfold kv PT at *
   go_upto_region 5 with fail
   rw [← hV1]
   clear hV1 e0 e1
   refine wp_region_H (S := fun w' => Kg w' g P X.now wr.heap.size k) (by kernel_rfl) ?_
   refine wpH_take (i := 0) (v := (.pointer (some ⟨g, 0, none⟩))) (some 19) rfl rfl (by kernel_rfl) (by kernel_rfl) (by kernel_rfl) (fun _ _ _ h => h) (Or.inl ⟨by rfl, fun w' hS => (by go_simp)⟩) s0 ?_
   try simp only [Go.Act.put, Zx, Zy, Zz]
   refine wpH_take (i := 1) (v := (.pointer (some ⟨g, 0, none⟩))) (some 20) rfl rfl (by kernel_rfl) (by kernel_rfl) (by kernel_rfl) (fun _ _ _ h => h) (Or.inl ⟨by rfl, fun w' hS => (by go_simp)⟩) s0 ?_
   try simp only [Go.Act.put, Zx, Zy, Zz]
   refine wpH_take (i := 2) (v := (.pointer (some ⟨g, 0, none⟩))) (some 21) rfl rfl (by kernel_rfl) (by kernel_rfl) (by kernel_rfl) (fun _ _ _ h => h) (Or.inl ⟨by rfl, fun w' hS => (by go_simp)⟩) s0 ?_
   try simp only [Go.Act.put, Zx, Zy, Zz]
   refine wpH_take (i := 3) (v := (.pointer (some ⟨g, 1, none⟩))) (some 22) rfl rfl (by kernel_rfl) (by kernel_rfl) (by kernel_rfl) (fun _ _ _ h => h) (Or.inl ⟨by rfl, fun w' hS => (by go_simp)⟩) s0 ?_
   try simp only [Go.Act.put, Zx, Zy, Zz]
   refine wpH_take (i := 4) (v := (.pointer (some ⟨P.t, 0, none⟩))) (some 23) rfl rfl (by kernel_rfl) (by kernel_rfl) (by kernel_rfl) (fun _ _ _ h => h) (Or.inl ⟨by rfl, fun w' hS => (by have z0 := C1 _ hS; go_simp)⟩) s0 ?_
   try simp only [Go.Act.put, Zx, Zy, Zz]
   refine wpH_take (i := 5) (v := (.agg #[.int .u16 k.1, .string k.2])) (some 24) rfl rfl (by kernel_rfl) (by kernel_rfl) (by kernel_rfl) (fun _ _ _ h => h) (Or.inl ⟨by rfl, fun w' hS => (by have z0 := K0 _ hS; have z1 := K1 _ hS; go_simp)⟩) s0 ?_
   try simp only [Go.Act.put, Zx, Zy, Zz]
   refine wpH_call (i := 6) (o := { dst := some 25, op := Op.call { callee := Callee.value (Operand.func 61), args := #[Operand.tmp 23, Operand.tmp 24], argTypes := #[113, 38] }, type := 81, pos := _, after := #[{ on := 4, ground := Ground.data }, { on := 5, ground := Ground.data }], guard := none }) (by kernel_rfl) rfl (fun K' hK => ?_)
   rw [if_pos (by rfl)]
   go_simp
   refine HC.out.mono ?_
   rintro e w2 ⟨rfl, q2, r2, b2⟩
   have s2 := HK.out _ q2 b2
   have Q2 := hid q2
   have R2 := hid r2
   clear q2 r2 b2
   refine hK.out _ _ s2 ?_
   clear hK
   try simp only [Go.Act.put, Zx, Zy, Zz]
   refine wpH_take (i := 7) (v := (.tuple #[(.int .i64 r), (.bool B)])) (some 18) rfl rfl (by kernel_rfl) (by kernel_rfl) (by kernel_rfl) (fun _ _ _ h => h) (Or.inl ⟨by rfl, fun w' hS => (by go_simp)⟩) s2 ?_
   try simp only [Go.Act.put, Zx, Zy, Zz]
   refine wpH_take (i := 8) (v := (.int .i64 r)) (some 26) rfl rfl (by kernel_rfl) (by kernel_rfl) (by kernel_rfl) (fun _ _ _ h => h) (Or.inl ⟨by rfl, fun w' hS => (by go_simp)⟩) s2 ?_
   try simp only [Go.Act.put, Zx, Zy, Zz]
   refine wpH_take (i := 9) (v := (.bool B)) (some 27) rfl rfl (by kernel_rfl) (by kernel_rfl) (by kernel_rfl) (fun _ _ _ h => h) (Or.inl ⟨by rfl, fun w' hS => (by go_simp)⟩) s2 ?_
   try simp only [Go.Act.put, Zx, Zy, Zz]
   refine wpH_take (i := 10) (v := (.int .i64 r)) (some 8) rfl rfl (by kernel_rfl) (by kernel_rfl) (by kernel_rfl) (fun _ _ _ h => h) (Or.inl ⟨by rfl, fun w' hS => (by go_simp)⟩) s2 ?_
   try simp only [Go.Act.put, Zx, Zy, Zz]
   refine wpH_take (i := 11) (v := (.bool B)) (some 9) rfl rfl (by kernel_rfl) (by kernel_rfl) (by kernel_rfl) (fun _ _ _ h => h) (Or.inl ⟨by rfl, fun w' hS => (by go_simp)⟩) s2 ?_
   try simp only [Go.Act.put, Zx, Zy, Zz]
   refine wpAnyH_done (by kernel_rfl) ?_ _
   have c1 := (HGM.out _ Q2.out).c1
   clear C1 K0 K1 s0 s2
   go_upto_region 7 with (go_at_call 57; refine (HRe.out _ Q2.out R2.out).mono ?_; rintro e w3 ⟨⟨D, E, rfl⟩, q3, r3⟩; have Q3 := hid q3; have R3 := hid r3; clear q3 r3 c1)
   cases C with
   | false =>
    have HX := hid (HE.out _ (.cells #[.bool false, .bool D] 141) _ Q3.out R3.out (HS0.out rfl _))
    go_wp2
    go_roundw
    case rel => exact ⟨_, _, _, _, _, _, .int .i64 ((1 : Nat) : Int), ⟨(1 : Nat), rfl, Nat.le_refl _, none, 0, 0, rfl, HX⟩, rfl, rfl, rfl, rfl, rfl, rfl, by go_num⟩
    case measure => simp [intOf]
   | true =>
    go_wp2_with (at_builtin; refine wpList_append_rs rfl _ _ 47 3 rfl (.int .i64 0) 1 8 info3z Tryz.underlying47 rfl (by decide) w3.heap.size (.slice none 0 0) 0 [] rfl (World.ownsRow_nil _ _ _ _) (.slice (some ⟨w3.heap.size + 1, 0, none⟩) 1 1) 1 [.int .i64 r] rfl (by have := Rs.new (w3.alloc (.cells #[.bool true, .bool D] 141)) #[.int .i64 r] 3 1 rfl; rwa [World.size_alloc] at this) (by intro z hz; simp at hz; subst hz; rfl) (by unfold maxLen; omega) (by omega) (by simp; omega) ?_; intro v5 w5 o5 g5 p5; obtain ⟨a5, c5, e5⟩ := own_form o5; subst e5; have HX := hid (HEG.out _ _ _ _ _ Q3.out R3.out g5 o5 rfl); clear o5 g5 p5)
    go_roundw
    case rel => exact ⟨_, _, _, _, _, _, .int .i64 ((1 : Nat) : Int), ⟨(1 : Nat), rfl, Nat.le_refl _, _, _, _, rfl, HX⟩, rfl, rfl, rfl, rfl, rfl, rfl, by go_num⟩
    case measure => simp [intOf]
  ·have HZ : Hid (Snt wr (.slice a5 n5 c5) (rlL X gs) ∧ GqE w wr g P F (rlX X gs) { N with t := N.t + m }) := hid (by
    have h1 := HL.out
    have h2 := HM.out
    obtain ⟨rt, ⟨e, e5, Q⟩ | ⟨e, e0, s, Q⟩⟩ := HR.out
    ·have hm0 : m = 0 := by omega
     rw [hm0] at h2
     have hg : gs = [] := List.length_eq_zero_iff.1 h2.symm
     rw [e5, hg, hm0]
     exact ⟨Snt.nil wr, Q⟩
    ·have hm1 : m = 1 := by omega
     rw [hm1]
     exact ⟨s, Q⟩)
   have zi : (m : Int) ≤ (i : Int) := by omega
   clear HR hlt hi
   go_wp2
   go_ret
   exact ⟨_, rfl, HZ.out.1, HZ.out.2⟩
end
end Go.Proofs.YtkfophlhpjbmgaaGreat
