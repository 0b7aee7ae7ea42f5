/- The first half of the law RecipeAlone: what a loader comes to by itself is the document's; the conditions: the table holds what the start lays, the list lies in memory, the key's space is a number of 16 bits. -/
import Derived.Test.YtgjojdlbighoaaaDoorAwk
import Derived.Test.YtgjojdlbighoaaaDoorRal
import Derived.Test.YtgjojdlbighoaaaDoorRch
import Derived.Test.YtgjojdlbighoaaaDoorGat
import Derived.Test.YtgjojdlbighoaaaDoorMps
import Derived.Deep.RegionHeld3
import Derived.Deep.CutRange
import Derived.Deep.CutBlock
namespace Go.Proofs.YtgjojdlbighoaaaDoor
open Go.RowKit Go.Sort Go.Maps Go.ChangeMaps
set_option linter.unusedVariables false

theorem around17 (x : Ar) (w : World) : Calls Tryd.prog 17 #[.agg #[.int .u16 x.sp, .string x.nm, .int .i64 x.r, .bool x.cn]] w fun e w' => e = .returned (.agg #[.int .u16 x.sp, .string x.nm, .int .i64 x.r, .bool x.cn]) ∧ Gr w w' := by
  go_enter Tryd.func17, Tryd.ntmps17
  go_wp2
  exact bodyPost_ret (v := .agg #[.int .u16 x.sp, .string x.nm, .int .i64 x.r, .bool x.cn]) (by simp [results, Tryd.results17, go_sem]) rfl ⟨rfl, ((Gr.refl _).alloc _).alloc _⟩
theorem outcome18 (v k c r : Int) (w : World) : Calls Tryd.prog 18 #[.agg #[.int .i64 v, .int .i64 k, .int .i64 c, .int .i64 r]] w fun e w' => e = .returned (.agg #[.int .i64 v, .int .i64 k, .int .i64 c, .int .i64 r]) ∧ Gr w w' := by
  go_enter Tryd.func18, Tryd.ntmps18
  go_wp2
  exact bodyPost_ret (v := .agg #[.int .i64 v, .int .i64 k, .int .i64 c, .int .i64 r]) (by simp [results, Tryd.results18, go_sem]) rfl ⟨rfl, ((Gr.refl _).alloc _).alloc _⟩
theorem ne_beq' {a b : Int} (h : a ≠ b) : (a == b) = false := by simpa using h
/-- how far the law's own sum of the sleeps has come -/
def Lw (L : List Sp) (j : Nat) (al : Int) (ft : Bool) : Prop := (ft = true ∧ lonS (L.drop j) al = lonS L 0) ∨ (ft = false ∧ al = 4611686018427387904 ∧ lonS L 0 = (4611686018427387904, false))
theorem lw_start (L : List Sp) : Lw L 0 0 true := Or.inl ⟨rfl, rfl⟩
theorem lw_end {L : List Sp} {al : Int} {ft : Bool} (h : Lw L L.length al ft) : lonS L 0 = (al, ft) := by
  rcases h with ⟨rfl, h⟩ | ⟨rfl, rfl, h⟩
  · rw [List.drop_length, lon_end] at h; exact h.symm
  · exact h
section
variable {L : List Sp} {j : Nat} {al : Int} {ft : Bool}
theorem Lw.no (h : Lw L j al ft) (hj : j < L.length) (h7 : L[j].1 ≠ 7) : Lw L (j + 1) al ft := by
  rcases h with ⟨rfl, h⟩ | h
  · rw [drop_at L j hj, lon_no _ _ _ h7] at h; exact Or.inl ⟨rfl, h⟩
  · exact Or.inr h
theorem Lw.low (h : Lw L j al ft) (hj : j < L.length) (h7 : L[j].1 = 7) (hal : al ≤ 4611686018427387904) (hp : ¬ 0 < L[j].2.1) : Lw L (j + 1) al ft := by
  rcases h with ⟨rfl, h⟩ | h
  · rw [drop_at L j hj, lon_zero _ _ _ h7 hal hp] at h; exact Or.inl ⟨rfl, h⟩
  · exact Or.inr h
theorem Lw.past (h : Lw L j al false) : Lw L (j + 1) al false := by
  rcases h with ⟨h, _⟩ | h
  · cases h
  · exact Or.inr h
theorem Lw.add (h : Lw L j al true) (hj : j < L.length) (h7 : L[j].1 = 7) (hm : ¬ 4611686018427387904 - al < L[j].2.1) (hp : 0 < L[j].2.1) : Lw L (j + 1) (al + L[j].2.1) true := by
  rcases h with ⟨_, h⟩ | ⟨h, _⟩
  · rw [drop_at L j hj, lon_pos _ _ _ h7 hm hp] at h; exact Or.inl ⟨rfl, h⟩
  · cases h
theorem Lw.many (h : Lw L j al true) (hj : j < L.length) (h7 : L[j].1 = 7) (hm : 4611686018427387904 - al < L[j].2.1) : Lw L (j + 1) 4611686018427387904 false := by
  rcases h with ⟨_, h⟩ | ⟨h, _⟩
  · rw [drop_at L j hj, lon_many _ _ _ h7 hm] at h; exact Or.inr ⟨rfl, rfl, h.symm⟩
  · cases h
end
/-- the law's own map of the gates -/
def Gm (w : World) (b : Nat) (G : List Int) : Prop := ∃ K : List Int, K.Nodup ∧ K.length ≤ G.length ∧ MapAt w b K.length (fun x => if x ∈ K then some (.bool true) else none) ∧ ∀ x, x ∈ K ↔ x ∈ G
theorem Gm.kept {w w' : World} {b : Nat} {G : List Int} (h : Gm w b G) (hg : Gr w w') : Gm w' b G := by
  obtain ⟨K, h1, h0, h2, h3⟩ := h
  exact ⟨K, h1, h0, h2.kept (hg.below.block b h2.lt), h3⟩
theorem Gm.lt {w : World} {b : Nat} {G : List Int} (h : Gm w b G) : b < w.heap.size := by
  obtain ⟨K, _, _, h2, _⟩ := h
  exact h2.lt
theorem gm_start (w : World) : Gm (w.alloc (.map #[] 0)) w.heap.size [] := ⟨[], List.nodup_nil, Nat.le_refl _, (mapAt_made w).congr (fun k _ => by simp), fun x => Iff.rfl⟩
theorem gm_add {w : World} {b : Nat} {G K : List Int} {y : Int} (h1 : K.Nodup) (h0 : K.length ≤ G.length) (h3 : ∀ x, x ∈ K ↔ x ∈ G)
    (hM : MapAt w b (if ((fun x => if x ∈ K then some (Value.bool true) else none) y).isSome then K.length else K.length + 1) (upd (fun x => if x ∈ K then some (.bool true) else none) y (.bool true))) : Gm w b (G ++ [y]) := by
  by_cases hy : y ∈ K
  · rw [if_pos (by simp [hy])] at hM
    refine ⟨K, h1, by rw [List.length_append]; omega, hM.congr (fun k _ => ?_), fun x => ?_⟩
    · unfold upd
      by_cases e : k = y
      · subst e; simp [hy]
      · simp [e]
    · rw [List.mem_append, List.mem_singleton, h3]
      constructor
      · exact Or.inl
      · rintro (h | rfl)
        · exact h
        · exact (h3 x).1 hy
  · rw [if_neg (by simp [hy])] at hM
    refine ⟨K ++ [y], ?_, by simp; omega, ?_, fun x => ?_⟩
    · rw [List.nodup_append]
      exact ⟨h1, by simp, fun a ha c hc => by rw [List.mem_singleton] at hc; subst hc; exact fun e => hy (e ▸ ha)⟩
    · rw [List.length_append]
      refine hM.congr (fun k _ => ?_)
      unfold upd
      by_cases e : k = y
      · subst e; simp
      · simp [e]
    · rw [List.mem_append, List.mem_append, h3]
/-- what the program's Alone answers, of any recipe -/
def AlU (x : Ar) (L : List Sp) (e : Ending) : Prop := ∃ v k c r s er, e = .returned (.tuple #[.agg #[.int .i64 v, .int .i64 k, .int .i64 c, .int .i64 r], .int .i64 s, .int .i64 er]) ∧ ((Good L ∧ er = 0 ∧ Al (x.f L) 0 0 0 (v, k, c, r, s)) ∨ (¬ Good L ∧ v = 0 ∧ k = 0 ∧ c = 0 ∧ r = 0 ∧ s = 0 ∧ er = 80))
theorem alone20_any (L : List Sp) (A : Option Addr) (c : Nat) (x : Ar) (w : World) (hk : Kd w) (hs : Sl w A L) (hw : WfS L) (hl : L.length ≤ 1000000000000000) (hx : x.ok) :
    Calls Tryd.prog 20 #[.slice A L.length c, .agg #[.int .u16 x.sp, .string x.nm, .int .i64 x.r, .bool x.cn]] w fun e w' => AlU x L e ∧ Gr w w' := by
  by_cases hg : Good L
  · exact Calls.mono (alone20_ok L A c x w hk hs hw hg hx) fun e w' ⟨⟨v, k, cc, r, s, he, ha, _⟩, h⟩ => ⟨⟨v, k, cc, r, s, 0, he, Or.inl ⟨hg, rfl, ha⟩⟩, h⟩
  · exact Calls.mono (alone20_no L A c x w hk hs hw hl hg) fun e w' ⟨he, h⟩ => ⟨⟨0, 0, 0, 0, 0, 80, he, Or.inr ⟨hg, rfl, rfl, rfl, rfl, rfl, rfl⟩⟩, h⟩
set_option maxRecDepth 20000 in
set_option maxHeartbeats 4000000 in
theorem alone4 (L : List Sp) (A : Option Addr) (c : Nat) (x : Ar) (w : World) (hk : Kd w) (hs : Sl w A L) (hw : WfS L) (hl : L.length ≤ 5864062014635) (hx : x.ok) :
    Calls Tryd.prog 4 #[.slice A L.length c, .agg #[.int .u16 x.sp, .string x.nm, .int .i64 x.r, .bool x.cn]] w fun e w' => e = .returned (.bool true) ∧ Gr w w' := by
  have mixed := mixed
  have HS : Hid (Kd w ∧ Sl w A L ∧ WfS L ∧ x.ok ∧ L.length ≤ 5864062014635) := ⟨hk, hs, hw, hx, hl⟩
  have hl' : (L.length : Int) ≤ 5864062014635 := by omega
  clear hk hs hw hx hl
  go_enter Tryd.func4, Tryd.ntmps4
  go_wp2_with fail
  refine Calls.mono (awake11 _ (HS.out.1.gr ((Gr.refl _).alloc _))) ?_
  rintro e w0 ⟨rfl, hg⟩
  have B0 : Hid (Bx w0 w.heap.size (.int .u16 x.sp) (.string x.nm) (.int .i64 x.r) (.bool x.cn)) := (bx_new w _ _ _ _ _).gr hg
  have G0 : Hid (Gr w w0) := ((Gr.refl _).alloc _).trans hg
  have q0 := B0.out.c0
  have q1 := B0.out.c1
  have q2 := B0.out.c2
  have q3 := B0.out.c3
  clear hg
  go_wp2_with fail
  refine Calls.mono (alone20_any L A c x w0 (HS.out.1.gr G0.out) (HS.out.2.1.gr G0.out) HS.out.2.2.1 (by have := HS.out.2.2.2.2; omega) HS.out.2.2.2.1) ?_
  rintro e w1 ⟨⟨v, k, cc, r, s, er, rfl, ha⟩, hg1⟩
  have HA : Hid ((Good L ∧ er = 0 ∧ Al (x.f L) 0 0 0 (v, k, cc, r, s)) ∨ (¬ Good L ∧ v = 0 ∧ k = 0 ∧ cc = 0 ∧ r = 0 ∧ s = 0 ∧ er = 80)) := ha
  have GW : Hid (Gr w (w1.alloc (.cells #[.int .i64 v, .int .i64 k, .int .i64 cc, .int .i64 r] 41))) := (G0.out.trans hg1).alloc _
  have BW : Hid (Bx (w1.alloc (.cells #[.int .i64 v, .int .i64 k, .int .i64 cc, .int .i64 r] 41)) w.heap.size (.int .u16 x.sp) (.string x.nm) (.int .i64 x.r) (.bool x.cn)) := (B0.out.gr hg1).al _
  have BN : Hid (Bx (w1.alloc (.cells #[.int .i64 v, .int .i64 k, .int .i64 cc, .int .i64 r] 41)) w1.heap.size (.int .i64 v) (.int .i64 k) (.int .i64 cc) (.int .i64 r)) := bx_new _ _ _ _ _ _
  clear ha hg1 q0 q1 q2 q3 B0 G0
  go_wp2_with fail
  refine Calls.mono (given10 L A c _ (HS.out.2.1.gr GW.out) HS.out.2.2.2.2) ?_
  rintro e w2 ⟨A2, c2, rfl, hs2, hg2⟩
  have HS2 : Hid (Sl w2 A2 L) := hs2
  have GW2 : Hid (Gr w w2) := GW.out.trans hg2
  have BW2 : Hid (Bx w2 w.heap.size (.int .u16 x.sp) (.string x.nm) (.int .i64 x.r) (.bool x.cn)) := BW.out.gr hg2
  have BN2 : Hid (Bx w2 w1.heap.size (.int .i64 v) (.int .i64 k) (.int .i64 cc) (.int .i64 r)) := BN.out.gr hg2
  clear hs2 hg2 GW BW BN
  go_wp2_with fail
  refine Calls.mono (rcheck9 L A2 c2 _ HS2.out HS.out.2.2.1 (by have := HS.out.2.2.2.2; omega)) ?_
  rintro e w3 ⟨rfl, hg3⟩
  have GW3 : Hid (Gr w w3) := GW2.out.trans hg3
  have BW3 : Hid (Bx w3 w.heap.size (.int .u16 x.sp) (.string x.nm) (.int .i64 x.r) (.bool x.cn)) := BW2.out.gr hg3
  have BN3 : Hid (Bx w3 w1.heap.size (.int .i64 v) (.int .i64 k) (.int .i64 cc) (.int .i64 r)) := BN2.out.gr hg3
  have HF : Hid ((chkS L).2 = 0 ↔ Good L) := chk_good
  clear hg3 HS2 GW2 BW2 BN2
  generalize (chkS L).1 = f1 at *
  generalize (chkS L).2 = f2 at *
  obtain ⟨nb, hnb⟩ : ∃ nb, w1.heap.size = nb := ⟨_, rfl⟩
  rw [hnb] at BN3 ⊢
  clear hnb
  go_upto_if 38 with fail
  go_cut [4, 10, 11] from 39 to 70 (fun s4 _ _ wx => s4 = .bool false ∧ Gr w wx)
  case first =>
    have q0 := BN3.out.c0
    have q1 := BN3.out.c1
    have q2 := BN3.out.c2
    have q3 := BN3.out.c3
    by_cases hgood : Good L
    · obtain ⟨rfl, ha⟩ : er = 0 ∧ Al (x.f L) 0 0 0 (v, k, cc, r, s) := by
        rcases HA.out with h | h
        · exact h.2
        · exact absurd hgood h.1
      have HA2 : Hid (Al (x.f L) 0 0 0 (v, k, cc, r, s)) := ha
      have HGd : Hid (Good L) := hgood
      obtain rfl : f2 = 0 := HF.out.2 hgood
      clear HA ha hgood HF
      have p0 : ∀ w', Gr w3 w' → w'.cell? ⟨w.heap.size, 0, none⟩ = some (.int .u16 x.sp) := fun w' h => (BW3.out.gr h).c0
      have p1 : ∀ w', Gr w3 w' → w'.cell? ⟨w.heap.size, 1, none⟩ = some (.string x.nm) := fun w' h => (BW3.out.gr h).c1
      have p2 : ∀ w', Gr w3 w' → w'.cell? ⟨w.heap.size, 2, none⟩ = some (.int .i64 x.r) := fun w' h => (BW3.out.gr h).c2
      have p3 : ∀ w', Gr w3 w' → w'.cell? ⟨w.heap.size, 3, none⟩ = some (.bool x.cn) := fun w' h => (BW3.out.gr h).c3
      go_wp2_with fail
      go_cut [10, 11] from 50 to 57 (fun s10 s11 wx => ∃ b10 : Nat, s10 = .pointer (some ⟨b10, 0, none⟩) ∧ s11 = .int .i64 s ∧ Hid (Gr w3 wx) ∧ Hid (Bx wx b10 (.int .i64 v) (.int .i64 k) (.int .i64 cc) (.int .i64 r)))
      case first =>
        go_region_held3 (fun w' => Gr w3 w') (first | assumption | exact (Gr.refl _).drew | exact Gr.refl _ | exact Gr.drew (by assumption) | exact Gr.alloc (by assumption) _ | exact Gr.alloc (Gr.drew (Gr.refl _)) _ | exact Gr.set4 (by assumption) (Nat.le_refl _) _ _ _ _ | exact Gr.set4 (by assumption) hz4 _ _ _ _ | exact Gr.set4 (by assumption) hz5 _ _ _ _)
          (first
            | (go_at_call 10; refine Calls.mono (given10 L A c _ (HS.out.2.1.gr (GW3.out.trans (by first | assumption | exact (Gr.refl _).drew | exact Gr.alloc (Gr.drew (Gr.refl _)) _ | exact Gr.alloc (by assumption) _))) HS.out.2.2.2.2) ?_; rintro e w4 ⟨A4, c4, rfl, hs4, hg4⟩; have T4 : Gr w3 w4 := Gr.trans (by first | assumption | exact (Gr.refl _).drew | exact Gr.alloc (Gr.drew (Gr.refl _)) _ | exact Gr.alloc (by assumption) _) hg4; have HS4 : Hid (Sl w4 A4 L) := hs4; have hz4 := T4.size; (try have bnX : Bx w4 w3.heap.size (.int .i64 0) (.int .i64 0) (.int .i64 0) (.int .i64 0) := (bx_new w3.drew (.int .i64 0) (.int .i64 0) (.int .i64 0) (.int .i64 0) 48).gr hg4); clear hs4)
            | (go_at_call 17; refine Calls.mono (around17 x _) ?_; rintro e w5 ⟨rfl, hg5⟩; have g45 : Gr w4 w5 := (by first | exact hg5 | exact ((Gr.refl _).alloc _).trans hg5); have T5 : Gr w3 w5 := Gr.trans T4 g45; have hz5 := T5.size; (try have bnY := (bx_new w4 (.int .i64 0) (.int .i64 0) (.int .i64 0) (.int .i64 0) 48).gr hg5); (try have bnX5 := bnX.gr hg5))
            | (go_at_call 21; refine Calls.mono (alone21 L A4 c4 x _ (HS4.out.gr (by first | exact g45 | exact g45.alloc _)) HS.out.2.2.1 HGd.out HS.out.2.2.2.1) ?_; rintro e w6 ⟨⟨v', k', cc', r', s', rfl, ha', _⟩, hg6⟩; have g56 : Gr w5 w6 := (by first | exact hg6 | exact ((Gr.refl _).alloc _).trans hg6); have T6 : Gr w3 w6 := Gr.trans T5 g56; (try have bn := (bx_new w5 (.int .i64 0) (.int .i64 0) (.int .i64 0) (.int .i64 0) 48).gr hg6); (try have bn := bnY.gr hg6); (try have bn := bnX5.gr hg6); (try have z0 := bn.c0); (try have z1 := bn.c1); (try have z2 := bn.c2); (try have z3 := bn.c3); (try have z4 := bn.f0); (try have z5 := bn.f1); (try have z6 := bn.f2); (try have z7 := bn.f3); have he := HA2.out.eq ha'; simp only [Prod.mk.injEq] at he; obtain ⟨rfl, rfl, rfl, rfl, rfl⟩ := he))
        all_goals
          go_wp2_with fail
          go_meet
          case rel =>
            first
              | exact ⟨_, rfl, rfl, T6.alloc _, bx_new w6 _ _ _ _ _⟩
              | exact ⟨_, rfl, rfl, Gr.set4 T6 hz5 (.int .i64 v) (.int .i64 k) (.int .i64 cc) (.int .i64 r), bn.set (.int .i64 v) (.int .i64 k) (.int .i64 cc) (.int .i64 r)⟩
              | exact ⟨_, rfl, rfl, Gr.set4 T6 hz4 (.int .i64 v) (.int .i64 k) (.int .i64 cc) (.int .i64 r), bn.set (.int .i64 v) (.int .i64 k) (.int .i64 cc) (.int .i64 r)⟩
              | exact ⟨_, rfl, rfl, Gr.set4 T6 (Nat.le_refl _) (.int .i64 v) (.int .i64 k) (.int .i64 cc) (.int .i64 r), bn.set (.int .i64 v) (.int .i64 k) (.int .i64 cc) (.int .i64 r)⟩
      case rest =>
        obtain ⟨b10, rfl, rfl, GC, BC⟩ := hcut
        have BN4 : Hid (Bx wc nb (.int .i64 v) (.int .i64 k) (.int .i64 cc) (.int .i64 r)) := BN3.out.gr GC.out
        clear p0 p1 p2 p3 q0 q1 q2 q3
        have p0 : ∀ w', Gr wc w' → w'.cell? ⟨nb, 0, none⟩ = some (.int .i64 v) := fun w' h => (BN4.out.gr h).c0
        have p1 : ∀ w', Gr wc w' → w'.cell? ⟨nb, 1, none⟩ = some (.int .i64 k) := fun w' h => (BN4.out.gr h).c1
        have p2 : ∀ w', Gr wc w' → w'.cell? ⟨nb, 2, none⟩ = some (.int .i64 cc) := fun w' h => (BN4.out.gr h).c2
        have p3 : ∀ w', Gr wc w' → w'.cell? ⟨nb, 3, none⟩ = some (.int .i64 r) := fun w' h => (BN4.out.gr h).c3
        have q0 : ∀ w', Gr wc w' → w'.cell? ⟨b10, 0, none⟩ = some (.int .i64 v) := fun w' h => (BC.out.gr h).c0
        have q1 : ∀ w', Gr wc w' → w'.cell? ⟨b10, 1, none⟩ = some (.int .i64 k) := fun w' h => (BC.out.gr h).c1
        have q2 : ∀ w', Gr wc w' → w'.cell? ⟨b10, 2, none⟩ = some (.int .i64 cc) := fun w' h => (BC.out.gr h).c2
        have q3 : ∀ w', Gr wc w' → w'.cell? ⟨b10, 3, none⟩ = some (.int .i64 r) := fun w' h => (BC.out.gr h).c3
        go_wp2_with fail
        go_region_held3 (fun w' => Gr wc w') (first | assumption | exact (Gr.refl _).drew | exact Gr.refl _ | exact Gr.drew (by assumption))
          (first | (go_at_call 18; refine Calls.mono (outcome18 v k cc r _) ?_; rintro e w7 ⟨rfl, hg7⟩; have T7 : Gr wc w7 := Gr.trans (by assumption) hg7))
        go_wp2_with fail
        go_meet
        case rel => exact ⟨rfl, (GW3.out.trans GC.out).trans T7⟩
    · obtain ⟨rfl, rfl, rfl, rfl, rfl, rfl⟩ : v = 0 ∧ k = 0 ∧ cc = 0 ∧ r = 0 ∧ s = 0 ∧ er = 80 := by
        rcases HA.out with h | h
        · exact absurd h.1 hgood
        · exact h.2
      have hne : ¬ f2 = 0 := fun h => hgood (HF.out.1 h)
      have hf2 : (f2 == 0) = false := by simpa using hne
      clear HA hgood HF hne
      go_wp2_with fail
      go_meet
      case rel => exact ⟨rfl, GW3.out⟩
  case rest =>
    obtain ⟨rfl, GC⟩ := hcut
    have HG0 : Hid (Gr w (wc.alloc (.map #[] 0))) := GC.alloc _
    have HM0 : Hid (Gm (wc.alloc (.map #[] 0)) wc.heap.size []) := gm_start wc
    have HMB : Hid (w.heap.size ≤ wc.heap.size) := GC.size
    clear GC GW3 BW3 BN3 HA HF
    have hmm := @run_makeMap Tryd.prog
    go_wp2_with fail
    clear hmm
    obtain ⟨mb, hmb⟩ : ∃ mb, wc.heap.size = mb := ⟨_, rfl⟩
    rw [hmb] at HM0 HMB ⊢
    clear hmb
    go_loopw [13, 14, 74] (fun v13 v14 i wr => ∃ (j : Nat) (al : Int) (ft : Bool), i = .int .i64 j ∧ v13 = .int .i64 al ∧ v14 = .bool ft ∧ j ≤ L.length ∧ 0 ≤ al ∧ al ≤ 4611686018427387904 ∧ Hid (Lw L j al ft) ∧ Hid (Gm wr mb (gl (L.take j))) ∧ Hid (Gr w wr)) (fun _ _ i _ => L.length - (intOf i).toNat)
    case atStart => exact ⟨0, 0, true, rfl, rfl, rfl, Nat.zero_le _, by omega, by omega, lw_start L, HM0.out, HG0.out⟩
    case round =>
      obtain ⟨j, al, ft, rfl, rfl, rfl, hj, ha0, ha1, HL, HM, HG⟩ := hrel
      by_cases hlt : j < L.length
      · have hz : (j : Int) < (L.length : Int) := by omega
        have hz' : (0 : Int) ≤ (j : Int) := by omega
        obtain ⟨b, off, rfl, f0, f1, f2⟩ := (HS.out.2.1.gr HG.out) j hlt
        obtain ⟨hy1, hy2⟩ := (HS.out.2.2.1 _ (List.getElem_mem hlt)).2.1
        have HT := gl_take L j hlt
        have wd : IntKind.i64.wrap (4611686018427387904 - al) = 4611686018427387904 - al := by rw [IntKind.wrap_i64]; omega
        by_cases h6 : L[j].1 = 6
        · rw [gl_yes _ h6] at HT
          have HL2 : Hid (Lw L (j + 1) al ft) := HL.out.no hlt (by rw [h6]; decide)
          have HT2 : Hid (gl (L.take (j + 1)) = gl (L.take j) ++ [L[j].2.1]) := HT
          obtain ⟨K, k1, k0, k2, k3⟩ := HM.out
          have HK : Hid (K.Nodup ∧ K.length ≤ (gl (L.take j)).length ∧ ∀ x, x ∈ K ↔ x ∈ gl (L.take j)) := ⟨k1, k0, k3⟩
          have hkl : K.length < maxLen := by
            have h1 := gl_len (L.take j)
            rw [List.length_take] at h1
            have h2 := HS.out.2.2.2.2
            unfold maxLen
            omega
          have hmlt := HM.out.lt
          rw [h6] at f0
          clear HT h6 k1 k0 k3 HM HL
          generalize L[j].2.1 = y at *
          generalize L[j].2.2 = z at *
          have M2 : Hid (MapAt (wr.alloc (.cells #[.int .i64 6, .int .i64 y, .int .i64 z] 64)) mb K.length (fun x => if x ∈ K then some (.bool true) else none)) := k2.kept (Below.heap_alloc _ _ _ k2.lt)
          have HY : Hid (W64 y) := W64.mk hy1 hy2
          have z0 : ∀ ob, (setBlock (wr.alloc (.cells #[.int .i64 6, .int .i64 y, .int .i64 z] 64)) mb ob).cell? ⟨wr.heap.size, 0, none⟩ = some (.int .i64 6) := fun ob => by rw [cell_setBlock ob (by show wr.heap.size ≠ mb; omega)]; simp
          clear k2
          go_wp2_with (at_mapUpdate; refine wpList_mset _ rfl _ _ _ 62 rfl 4 Tryd.underlying62 mb K.length _ rfl M2.out hkl y rfl HY.out (.bool true) rfl ?_; intro ob hM; have HM3 : Hid _ := hM; clear hM)
          go_roundw
          case rel => exact ⟨j + 1, al, ft, by go_num, rfl, rfl, by omega, by omega, by omega, HL2.out, by show Gm _ _ _; rw [HT2.out]; exact gm_add HK.out.1 HK.out.2.1 HK.out.2.2 HM3.out, (HG.out.alloc _).setB HMB.out _⟩
          case measure => simp [intOf]; omega
        · rw [gl_no _ h6, List.append_nil] at HT
          have HM2 : Hid (Gm (wr.alloc (.cells #[.int .i64 L[j].1, .int .i64 L[j].2.1, .int .i64 L[j].2.2] 64)) mb (gl (L.take (j + 1)))) := by show Gm _ _ _; rw [HT]; exact HM.out.kept ((Gr.refl _).alloc _)
          have g6 := ne_beq' h6
          clear HT h6 HM
          by_cases h7 : L[j].1 = 7
          · rw [h7] at f0 HM2
            clear g6
            by_cases hp : 0 < L[j].2.1
            · cases ft with
              | false =>
                have HL2 : Hid (Lw L (j + 1) al false) := HL.out.past
                clear h7 HL
                generalize L[j].2.1 = y at *
                generalize L[j].2.2 = z at *
                go_wp2
                go_roundw
                case rel => exact ⟨j + 1, al, false, by go_num, rfl, rfl, by omega, by omega, by omega, HL2.out, HM2.out, HG.out.alloc _⟩
                case measure => simp [intOf]; omega
              | true =>
                by_cases hm : 4611686018427387904 - al < L[j].2.1
                · have HL2 : Hid (Lw L (j + 1) 4611686018427387904 false) := HL.out.many hlt h7 hm
                  clear h7 HL
                  generalize L[j].2.1 = y at *
                  generalize L[j].2.2 = z at *
                  go_wp2
                  go_roundw
                  case rel => exact ⟨j + 1, 4611686018427387904, false, by go_num, rfl, rfl, by omega, by omega, by omega, HL2.out, HM2.out, HG.out.alloc _⟩
                  case measure => simp [intOf]; omega
                · have HL2 : Hid (Lw L (j + 1) (al + L[j].2.1) true) := HL.out.add hlt h7 hm hp
                  have wa : IntKind.i64.wrap (al + L[j].2.1) = al + L[j].2.1 := by rw [IntKind.wrap_i64]; omega
                  clear h7 HL
                  generalize L[j].2.1 = y at *
                  generalize L[j].2.2 = z at *
                  go_wp2
                  go_roundw
                  case rel => exact ⟨j + 1, al + y, true, by go_num, rfl, rfl, by omega, by omega, by omega, HL2.out, HM2.out, HG.out.alloc _⟩
                  case measure => simp [intOf]; omega
            · have HL2 : Hid (Lw L (j + 1) al ft) := HL.out.low hlt h7 ha1 hp
              clear h7 HL
              generalize L[j].2.1 = y at *
              generalize L[j].2.2 = z at *
              go_wp2
              go_roundw
              case rel => exact ⟨j + 1, al, ft, by go_num, rfl, rfl, by omega, by omega, by omega, HL2.out, HM2.out, HG.out.alloc _⟩
              case measure => simp [intOf]; omega
          · have HL2 : Hid (Lw L (j + 1) al ft) := HL.out.no hlt h7
            have g7 := ne_beq' h7
            clear h7 HL
            generalize L[j].1 = xo at *
            generalize L[j].2.1 = y at *
            generalize L[j].2.2 = z at *
            go_wp2
            go_roundw
            case rel => exact ⟨j + 1, al, ft, by go_num, rfl, rfl, by omega, by omega, by omega, HL2.out, HM2.out, HG.out.alloc _⟩
            case measure => simp [intOf]; omega
      · have hz : ¬ (j : Int) < (L.length : Int) := by omega
        obtain rfl : j = L.length := by omega
        have HLe : Hid (lonS L 0 = (al, ft)) := lw_end HL.out
        rw [List.take_length] at HM
        clear HL
        go_wp2_with fail
        refine Calls.mono (gates22 L A c wr (HS.out.2.1.gr HG.out) HS.out.2.2.2.2) ?_
        rintro e w2 ⟨A2, c2, Z, rfl, hin, hzp, hzm, hg2, hzl⟩
        have HM2 := HM.out.kept hg2
        obtain ⟨K, k1, k0, k2, k3⟩ := HM2
        have HKl : Hid (Z.length = K.length) := same_len (nodup_of_lt hzp) k1 (fun x => (hzm x).trans (k3 x).symm)
        have HI : Hid (In w2 A2 Z) := hin
        have HZ : Hid (Z.Pairwise (· < ·) ∧ Z.length ≤ L.length) := ⟨hzp, hzl⟩
        have HG2 : Hid (Gr w w2) := HG.out.trans hg2
        have HW : Hid (∀ x ∈ Z, I64 x) := fun x hx => by
          obtain ⟨y, hy, rfl⟩ := List.mem_map.1 ((hzm x).1 hx)
          exact (HS.out.2.2.1 y (List.mem_filter.1 hy).1).2.1
        have HMk : Hid (MapAt w2 mb K.length (fun x => if x ∈ K then some (.bool true) else none)) := k2
        have hlk : ∀ x, x ∈ Z → (Instr.lookup 62 (.map (some mb)) (.int .i64 x) false).run Tryd.prog w2 = .ok (.bool true) w2 := fun x hx => by
          have hw := HW.out x hx
          have := HMk.out.look Tryd.underlying62 (zero4 _) (W64.mk hw.1 hw.2)
          rw [if_pos ((k3 x).2 ((hzm x).1 hx))] at this
          exact this
        have HLk : Hid (∀ x, x ∈ Z → (Instr.lookup 62 (.map (some mb)) (.int .i64 x) false).run Tryd.prog w2 = .ok (.bool true) w2) := hlk
        have hzl' : (Z.length : Int) ≤ 5864062014635 := by have := HS.out.2.2.2.2; omega
        clear hin hzp hzm hg2 hzl k1 k0 k2 k3 hlk HM HG
        go_wp2_with fail
        go_loopw [109] (fun i wx => ∃ j : Nat, i = .int .i64 j ∧ j ≤ Z.length ∧ wx = w2) (fun i _ => Z.length - (intOf i).toNat)
        case atStart => exact ⟨0, rfl, Nat.zero_le _, rfl⟩
        case round =>
          obtain ⟨i, rfl, hi, rfl⟩ := hrel
          by_cases hli : i < Z.length
          · have hy : (i : Int) < (Z.length : Int) := by omega
            have hy' : (0 : Int) ≤ (i : Int) := by omega
            obtain ⟨zb, rfl, e0⟩ := HI.out i hli
            have l0 := HLk.out Z[i] (List.getElem_mem hli)
            cases i with
            | zero =>
              generalize Z[0] = g at *
              go_wp2
              go_roundw
              case rel => exact ⟨1, rfl, by omega, by first | rfl | trivial⟩
              case measure => simp [intOf]; omega
            | succ i =>
              obtain ⟨zb', hzb, e1⟩ := HI.out i (by omega)
              cases hzb
              have hlt2 : ¬ Z[i + 1] ≤ Z[i] := by
                have := (List.pairwise_iff_getElem.1 HZ.out.1) i (i + 1) (by omega) hli (by omega)
                omega
              have wi : IntKind.i64.wrap (((i + 1 : Nat) : Int) - 1) = (i : Int) := by rw [IntKind.wrap_i64]; omega
              have wi2 : IntKind.i64.wrap (((i + 1 : Nat) : Int) + 1) = ((i + 2 : Nat) : Int) := by rw [IntKind.wrap_i64]; omega
              have hpos : (0 : Int) < ((i + 1 : Nat) : Int) := by omega
              have hiz : (i : Int) < (Z.length : Int) := by omega
              obtain ⟨I, hI⟩ : ∃ I : Nat, i + 1 = I := ⟨_, rfl⟩
              have HI2 : Hid (I - 1 = i ∧ 0 < I) := ⟨by omega, by omega⟩
              simp only [hI] at *
              generalize Z[i] = g' at *
              generalize Z[I] = g at *
              go_wp2
              go_roundw
              case rel => exact ⟨i + 2, rfl, by have := HI2.out; omega, by first | rfl | trivial⟩
              case measure => have := HI2.out; simp [intOf]; omega
          · have hy : ¬ (i : Int) < (Z.length : Int) := by omega
            go_wp2_with fail
            refine Calls.mono (longest23 L A c _ (HS.out.2.1.gr HG2.out) HS.out.2.2.1 HS.out.2.2.2.2) ?_
            rw [HLe.out]
            rintro e w4 ⟨rfl, hg4⟩
            have hln : ∀ ty, (Builtin.len_ #[62] ty #[.map (some mb)]).run Tryd.prog w4 = .ok (.int .i64 (Z.length : Int)) w4 := fun ty => by
              have := (HMk.out.kept (hg4.below.block mb HMk.out.lt)).len Tryd.underlying62 ty
              rw [← HKl.out] at this
              exact this
            have HG4 : Hid (Gr w w4) := HG2.out.trans hg4
            clear hg4
            go_wp2_with fail
            go_ret
            exact ⟨rfl, HG4.out⟩
end Go.Proofs.YtgjojdlbighoaaaDoor
