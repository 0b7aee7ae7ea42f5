/- The law's one act: a copy is taken, and the old one let be; and one act of whatever kind; no conditions but those that each states. -/
import Derived.Test.YtlmmljmhfghlnaaVob
import Derived.Test.YtlmmljmhfghlnaaVoc
import Derived.Test.YtlmmljmhfghlnaaHlh
import Derived.Test.YtlmmljmhfghlnaaAlh
namespace Go.Proofs.Ytlmmljmhfghlnaa
open Go.RowKit Go.Maps Go.ChangeMaps
set_option linter.unusedVariables false
set_option linter.unusedSimpArgs false
section
variable (w : World) (s : Nat) (F : List Nat) (L : List Se) (G : List Int) (u v : Value) (x : ActV) (N : Nat)
set_option maxHeartbeats 8000000 in
set_option maxRecDepth 100000 in
theorem one_copy (h : Sq w s F L G N) (hd : Dd w u v L G) (hN : N ≤ 4398046511000) (ha : x.ok) (hk0 : x.kd ≠ 0) (hk1 : x.kd ≠ 1) (hk2 : x.kd ≠ 2) (hk3 : x.kd ≠ 3) : Calls Try.prog 7 #[PT s, .agg #[u, v], .agg x.cs] w fun e w' => OnE e w w' F L G N := by
  obtain ⟨a, cu, a', cv, rfl, rfl⟩ := hd.fm
  obtain ⟨V, hV⟩ : ∃ V, V = ((w.alloc (.cells #[.slice a L.length cu, .slice a' G.length cv] 29)).alloc (.cells x.cs 35)).alloc (.cells z2 29) := ⟨_, rfl⟩
  obtain ⟨tv, hz, hb0, hb1, hb2⟩ := boxA w (.slice a L.length cu) (.slice a' G.length cv) x V hV
  have hF : ∀ q, q ∈ F → q < w.heap.size := h.lt
  have HBX : Hid (∀ w', Touch F V w' → Bx w w' (.slice a L.length cu) (.slice a' G.length cv) x) := hid (fun w' T => bx_of hF hb0 hb1 hb2 T)
  have hll : L.length ≤ N := h.iv.ll
  have hlg : G.length ≤ N := h.iv.lg
  have hs1 := h.keep0 tv
  have hown := hs1.own
  have hd1 := hd.keep0 tv
  have HP : Hid (Calls Try.prog 25 #[PT s] V fun e w2 => ∃ k, e = .returned (PT k) ∧ Touch [] V w2 ∧ Calls Try.prog 24 #[PT s, .int .i64 x.st.tk] w2 fun e w3 => ∃ a3 n3 c3, e = .returned (.slice a3 n3 c3) ∧ Touch F V w3 ∧ Calls Try.prog 22 #[PT s, .agg #[.int .i64 1000, .int .i64 1, .int .i64 0]] w3 fun e w4 => ∃ k4, e = .returned (.int .i64 k4) ∧ Touch F V w4 ∧ ∀ W5, Touch [w.heap.size + 2] w4 W5 → OnE (.returned (.tuple #[PT k, .agg #[.slice a L.length cu, .slice a' G.length cv], .bool true])) w W5 F L G N) := hid (by
    refine (clone_ hs1 (by omega)).mono ?_
    rintro e w2 ⟨k, Fk, rfl, p1, p2, p3⟩
    refine ⟨k, rfl, p2, ?_⟩
    refine (cancel_ (hs1.keep0 p2) ha.2.2.2 (by omega)).mono ?_
    rintro e w3 ⟨a3, c3, rfl, _, F3, q1, q2, q3⟩
    have t3 : Touch F V w3 := (p2.mono (fun _ e => by cases e)).trans' q2
    refine ⟨a3, _, c3, rfl, t3, ?_⟩
    refine (sit_ q1 (x := (1000, 1, 0)) ⟨W64.mk (by decide) (by decide), W64.mk (by decide) (by decide), W64.mk (by decide) (by decide)⟩ (by omega)).mono ?_
    rintro e w4 ⟨rfl, F4, y1, y2, y3⟩
    have t4 : Touch F V w4 := t3.trans y2 (fun q hq => (q3 q hq).elim Or.inl (fun e => Or.inr (Nat.le_trans p2.size e)))
    refine ⟨_, rfl, t4, fun W5 t5 => ?_⟩
    have hkl := p1.lt
    have hbx := (HBX.out w4 t4).bx
    have x1 : Sq w3 k Fk L G N := p1.keep q2 (fun q hq e => by have := hF q e; have := p3 q hq; have := tv.size; omega)
    have x2 : Sq w4 k Fk L G N := x1.keep y2 (fun q hq e => by
      rcases q3 q e with e' | e'
      · have := hF q e'; have := p3 q hq; have := tv.size; omega
      · have := hkl q hq; omega)
    refine ⟨k, _, _, _, _, _, _, rfl, Fk, (x2.keep t5 (fun q hq e => by have := p3 q hq; simp at e; omega)).mono (Nat.le_succ N), ?_, ?_, fun q hq => Or.inr (Nat.le_trans tv.size (p3 q hq))⟩
    · have hd3 : Dd w3 _ _ L G := (hd1.keep0 p2).other q2 (fun q hq => ((hs1.keep0 p2).own q hq))
      have hd4 : Dd w4 _ _ L G := hd3.other y2 q1.own
      exact hd4.box hbx t5
    · exact ((tv.mono (fun _ e => by cases e)).trans' t4).trans t5 (fun q hq => Or.inr (by simp at hq; omega)))
  have hk := True.intro
  obtain ⟨b0, b1, i0, i1, i2, i3, d0, d1, gg, bx⟩ := HBX.out V (Touch.refl _ _)
  have j0 : (x.kd == 0) = false := by simpa using hk0
  have j1 : (x.kd == 1) = false := by simpa using hk1
  have j2 : (x.kd == 2) = false := by simpa using hk2
  have j3 : (x.kd == 3) = false := by simpa using hk3
  clear hk0 hk1 hk2 hk3
  clear h hd tv hz hb0 hb1 hb2 hF hll hlg hs1 hown hd1 bx ha hk hN
  unfold ActV.cs z2 at hV
  unfold ActV.cs
  generalize L.length = ln at *
  generalize G.length = gn at *
  unfold PT at HP
  try unfold sv at HP
  unfold PT
  go_enter Try.func7, Try.ntmps7
  go_upto_region 1 with fail
  rw [← hV]
  clear hV
  go_upto_region 20 with (go_at_call 25; refine HP.out.mono ?_; rintro e w2 ⟨k, rfl, t2, q2⟩; clear b0 b1 i0 i1 i2 i3 d0 d1 gg; obtain ⟨b0, b1, i0, i1, i2, i3, d0, d1, gg, bx⟩ := HBX.out _ (t2.mono (fun _ e => by cases e)); have Q2 := hid q2; clear t2 q2 bx)
  go_upto_region 21 with (go_at_call 24; refine Q2.out.mono ?_; rintro e w3 ⟨a3, n3, c3, rfl, t3, q3⟩; have Q3 := hid q3; have T3 := hid t3; clear t3 q3 b0 b1 i0 i1 i2 i3 d0 d1 gg)
  go_upto_region 22 with (go_at_call 22; refine Q3.out.mono ?_; rintro e w4 ⟨k4, rfl, t4, q4⟩; have HY := hid q4; have HT := hid t4; clear q4 t4)
  obtain ⟨-, -, -, -, -, -, d0, d1, gg, -⟩ := HBX.out _ HT.out
  have HBN : Hid (∀ w', Touch [w.heap.size + 2] w4 w' → w'.cell? ⟨w.heap.size, 0, none⟩ = some (.slice a ln cu) ∧ w'.cell? ⟨w.heap.size, 1, none⟩ = some (.slice a' gn cv)) := hid (fun w' T => by
    have hb := HBX.out _ HT.out
    refine ⟨?_, ?_⟩
    · rw [World.cell?_of_block (by exact T.block w.heap.size (by have := block_lt hb.bx; omega) (by simp))]; exact hb.b0
    · rw [World.cell?_of_block (by exact T.block w.heap.size (by have := block_lt hb.bx; omega) (by simp))]; exact hb.b1)
  have g0 : ∀ w', Touch [w.heap.size + 2] w4 w' → w'.cell? ⟨w.heap.size, 0, none⟩ = some (.slice a ln cu) := fun w' T => (HBN.out w' T).1
  have g1 : ∀ w', Touch [w.heap.size + 2] w4 w' → w'.cell? ⟨w.heap.size, 1, none⟩ = some (.slice a' gn cv) := fun w' T => (HBN.out w' T).2
  clear HBN j0 j1 j2 j3 HP Q2 Q3 HBX T3
  have s0 : Touch [w.heap.size + 2] w4 w4.drew := (Touch.refl _ _).drew
  refine wp_region_H (S := fun w' => Touch [w.heap.size + 2] w4 w') (by kernel_rfl) ?_
  refine wpH_take (i := 0) (v := (.pointer (some ⟨k, 0, none⟩))) (some 131) rfl rfl (by kernel_rfl) (by kernel_rfl) (by kernel_rfl) (fun _ _ _ h => h) (Or.inl ⟨by rfl, fun w' hS => (by go_simp)⟩) s0 ?_
  try simp only [Go.Act.put, List.setIfInBounds_toArray, List.set_cons_zero, List.set_cons_succ]
  refine wpH_take (i := 1) (v := (.agg #[.slice a ln cu, .slice a' gn cv])) (some 132) rfl rfl (by kernel_rfl) (by kernel_rfl) (by kernel_rfl) (fun _ _ _ h => h) (Or.inl ⟨by rfl, fun w' hS => (by have z0 := g0 _ hS; have z1 := g1 _ hS; go_simp)⟩) s0 ?_
  try simp only [Go.Act.put, List.setIfInBounds_toArray, List.set_cons_zero, List.set_cons_succ]
  refine wpH_take (i := 2) (v := (.pointer (some ⟨k, 0, none⟩))) (some 133) rfl rfl (by kernel_rfl) (by kernel_rfl) (by kernel_rfl) (fun _ _ _ h => h) (Or.inl ⟨by rfl, fun w' hS => (by go_simp)⟩) s0 ?_
  try simp only [Go.Act.put, List.setIfInBounds_toArray, List.set_cons_zero, List.set_cons_succ]
  refine wpH_take (i := 3) (v := (.bool true)) (some 134) rfl rfl (by kernel_rfl) (by kernel_rfl) (by kernel_rfl) (fun _ _ _ h => h) (Or.inl ⟨by rfl, fun w' hS => (by go_simp)⟩) s0 ?_
  try simp only [Go.Act.put, List.setIfInBounds_toArray, List.set_cons_zero, List.set_cons_succ]
  refine wpH_take (i := 4) (v := (.pointer (some ⟨k, 0, none⟩))) (some 6) rfl rfl (by kernel_rfl) (by kernel_rfl) (by kernel_rfl) (fun _ _ _ h => h) (Or.inl ⟨by rfl, fun w' hS => (by go_simp)⟩) s0 ?_
  try simp only [Go.Act.put, List.setIfInBounds_toArray, List.set_cons_zero, List.set_cons_succ]
  refine wpH_call (i := 5) (o := { dst := none, op := Op.store 29 (Operand.tmp 7) (Operand.tmp 132), type := 0, pos := _, after := #[{ on := 1, ground := Ground.data }, { on := 4, ground := Ground.chain }, { on := 0, ground := Ground.phase }, { on := 1, ground := Ground.phase }, { on := 2, ground := Ground.textOnly Departure.lateStores }, { on := 3, ground := Ground.textOnly Departure.lateStores }, { on := 4, ground := Ground.phase }], guard := none }) (by kernel_rfl) rfl (fun K' hK => ?_)
  rw [if_pos (by rfl)]
  go_simp
  refine hK.out _ _ ((((Touch.refl _ _).setCell (Or.inl (by simp)) _).setCell (Or.inl (by simp)) _).drew) ?_
  clear hK
  try simp only [Go.Act.put, List.setIfInBounds_toArray, List.set_cons_zero, List.set_cons_succ]
  refine wpH_take (i := 6) (v := (.bool true)) (some 8) rfl rfl (by kernel_rfl) (by kernel_rfl) (by kernel_rfl) (fun _ _ _ h => h) (Or.inl ⟨by rfl, fun w' hS => (by go_simp)⟩) ((((Touch.refl _ _).setCell (Or.inl (by simp)) _).setCell (Or.inl (by simp)) _).drew) ?_
  try simp only [Go.Act.put, List.setIfInBounds_toArray, List.set_cons_zero, List.set_cons_succ]
  refine wpAnyH_done (by kernel_rfl) ?_ _
  go_wp2
  refine bodyPost_ret (v := .tuple #[.pointer (some ⟨k, 0, none⟩), .agg #[.slice a ln cu, .slice a' gn cv], .bool true]) (by simp [results, Try.results7, go_sem, d0, d1]) rfl (HY.out _ ?_)
  exact ((((Touch.refl _ _).setCell (Or.inl (by simp)) _).setCell (Or.inl (by simp)) _).drew)
/-- One act of whatever kind. -/
theorem one_ (h : Sq w s F L G N) (hd : Dd w u v L G) (hN : N ≤ 4398046511000) (ha : x.ok) : Calls Try.prog 7 #[PT s, .agg #[u, v], .agg x.cs] w fun e w' => OnE e w w' F (stpL L G x) (stpG G x) N := by
  unfold stpL stpG
  by_cases h0 : x.kd = 0
  · rw [if_pos h0, if_neg (by omega)]; exact one_sit w s F L G u v x N h hd (by omega) ha h0
  · rw [if_neg h0]
    by_cases h1 : x.kd = 1
    · rw [if_pos h1, if_neg (by omega)]; exact one_stand w s F L G u v x N h hd (by omega) ha h1
    · rw [if_neg h1]
      by_cases h2 : x.kd = 2
      · rw [if_pos h2, if_neg (by omega)]; exact one_end w s F L G u v x N h hd (by omega) ha h2
      · rw [if_neg h2]
        by_cases h3 : x.kd = 3
        · rw [if_pos h3, if_pos h3]; exact one_cancel w s F L G u v x N h hd (by omega) ha h3
        · rw [if_neg h3, if_neg h3]; exact one_copy w s F L G u v x N h hd (by omega) ha h0 h1 h2 h3
end
end Go.Proofs.Ytlmmljmhfghlnaa
