/- The contract of Make of a token that hangs on another. -/
import Derived.Test.YtbjnajiicljnbaaMak
namespace Go.Proofs.Ytbjnajiicljnbaa
open Go.RowKit Go.Maps Go.ChangeMaps
set_option linter.unusedVariables false
theorem mk_ahead {w V : World} {t g c m : Nat} {S : List Tk} (h : Tn w t (.slice (some ⟨g, 0, none⟩) S.length c) S) (h1 : 1 ≤ m) (h2 : m ≤ S.length) (TV : Touch [] w V)
    (bV : V.heap[w.heap.size]? = some (.cells #[.int .i64 (m : Nat), .int .i64 0, .int .i64 0, .int .i64 0, .int .i64 0] 61 (0, 0))) :
    Ap ((((V.setCell ⟨w.heap.size, 2, none⟩ (.int .i64 ((tk S m).why : Nat))).setCell ⟨w.heap.size, 4, none⟩ (.int .i64 ((tk S m).ch : Nat))).setCell ⟨g, (m - 1) * 5 + 3, none⟩ (.int .i64 ((S.length : Int) + 1))).drew) t (.slice (some ⟨g, 0, none⟩) S.length c) (S.set (m - 1) { tk S m with ch := S.length + 1 }) w.heap.size ⟨m, 0, (tk S m).why, 0, (tk S m).ch⟩ ∧
    Touch (ft t (.slice (some ⟨g, 0, none⟩) S.length c)) w ((((V.setCell ⟨w.heap.size, 2, none⟩ (.int .i64 ((tk S m).why : Nat))).setCell ⟨w.heap.size, 4, none⟩ (.int .i64 ((tk S m).ch : Nat))).setCell ⟨g, (m - 1) * 5 + 3, none⟩ (.int .i64 ((S.length : Int) + 1))).drew) := by
  have hgm : g ∈ ft t (.slice (some ⟨g, 0, none⟩) S.length c) := by simp [ft, Value.ownBlock]
  have hg := h.lt g hgm
  have ht := h.lt t (by simp [ft])
  have hgt := h.ne g rfl
  have b1 := Joins.block_setCell (i := 2) bV (.int .i64 ((tk S m).why : Nat))
  have b2 := Joins.block_setCell (i := 4) b1 (.int .i64 ((tk S m).ch : Nat))
  generalize hV1 : V.setCell ⟨w.heap.size, 2, none⟩ (.int .i64 ((tk S m).why : Nat)) = V1 at *
  have T1 : Touch [w.heap.size] V V1 := by rw [← hV1]; exact (Touch.refl _ _).setCell (Or.inl (by simp)) _
  generalize hV2 : V1.setCell ⟨w.heap.size, 4, none⟩ (.int .i64 ((tk S m).ch : Nat)) = V2 at *
  have T2 : Touch [w.heap.size] V1 V2 := by rw [← hV2]; exact (Touch.refl _ _).setCell (Or.inl (by simp)) _
  have T3 : Touch [] w V2 := TV.trans (T1.trans' T2) (fun i hi => Or.inr (by simp at hi; omega))
  have h3 := h.keep0 T3
  have T4 : Touch [g] V2 (V2.setCell ⟨g, (m - 1) * 5 + 3, none⟩ (.int .i64 ((S.length : Int) + 1))).drew := ((Touch.refl _ _).setCell (Or.inl (by simp)) _).drew
  refine ⟨⟨⟨h3.tc.keep T4 (by simpa using Ne.symm hgt), ?_, by simpa using h.le, fun e => by have := congrArg List.length e; simp at this; subst this; simp at h2; omega⟩, ?_, fun k hk e => by have := h.lt k hk; omega⟩, ?_⟩
  · have e : flat5 (S.set (m - 1) { tk S m with ch := S.length + 1 }) = (flat5 S).set ((m - 1) * 5 + 3) (.int .i64 ((S.length : Int) + 1)) := flat5_ch (s := S) (i := m - 1) (by omega) (S.length + 1)
    rw [List.length_set, e]
    have := own_set h3.row ((m - 1) * 5 + 3) (.int .i64 ((S.length : Int) + 1))
    exact own_touch this ((Touch.refl [] _).drew) (fun _ _ e => by cases e)
  · refine T4.keep ?_ (by simp; omega)
    simpa using b2
  · exact (T3.mono (fun _ e => by cases e)).trans' (T4.mono (fun k hk => by simp at hk; rw [hk]; exact hgm))
section
variable (w : World) (t : Nat) (sl : Value) (S : List Tk) (n : Int)
set_option maxHeartbeats 2000000 in
set_option maxRecDepth 100000 in
theorem make17_ok (m : Nat) (h : Tn w t sl S) (hl : S.length < 65536) (h1 : 1 ≤ m) (h2 : m ≤ S.length) : Calls Try.prog 17 #[PT t, .int .i64 (m : Nat)] w fun e w' => e = .returned (.tuple #[.int .i64 (S.length + 1 : Nat), .int .i64 0]) ∧ Nx w w' t sl (makeS S m) := by
  obtain ⟨i0, hi, hz0, hz1, hz2⟩ := info_parts info61
  obtain ⟨g, c, rfl⟩ := h.slice (by omega)
  have HF := hid (find26_ok w t S g c m h h1 h2)
  have c0 := h.tc.c0
  obtain ⟨-, -, x2, x3, -⟩ := h.cells h1 h2
  have fz := h.frz ((m - 1) * 5 + 3)
  have hg := h.lt g (by simp [ft, Value.ownBlock])
  have ht := h.lt t (by simp [ft])
  have HP : Hid (∀ V, Touch [] w V → V.heap[w.heap.size]? = some (.cells #[.int .i64 (m : Nat), .int .i64 0, .int .i64 0, .int .i64 0, .int .i64 0] 61 (0, 0)) → _) := fun V a b => mk_ahead h h1 h2 a b
  have HA : Hid (∀ W, Ap W t (.slice (some ⟨g, 0, none⟩) S.length c) (S.set (m - 1) { tk S m with ch := S.length + 1 }) w.heap.size ⟨m, 0, (tk S m).why, 0, (tk S m).ch⟩ → Touch (ft t (.slice (some ⟨g, 0, none⟩) S.length c)) w W → (∀ w', Touch [] W w' → w'.ownsRow 0 61 5 (.slice (some ⟨g, 0, none⟩) S.length c) S.length (flat5 (S.set (m - 1) { tk S m with ch := S.length + 1 }))) ∧ ∀ (w2 : World) (g2 c2 : Nat), w2.ownsRow 0 61 5 (.slice (some ⟨g2, 0, none⟩) (S.length + 1) c2) (S.length + 1) (flat5 (S.set (m - 1) { tk S m with ch := S.length + 1 }) ++ cells5 ⟨m, 0, (tk S m).why, 0, (tk S m).ch⟩) → Touch (Value.slice (some ⟨g, 0, none⟩) S.length c).ownBlock.toList W w2 → ((Value.slice (some ⟨g, 0, none⟩) S.length c).ownBlock = some g2 ∨ W.heap.size ≤ g2) →
    Nx w (w2.setCell ⟨t, 0, none⟩ (.slice (some ⟨g2, 0, none⟩) (S.length + 1) c2)) t (.slice (some ⟨g, 0, none⟩) S.length c) (makeS S m)) := fun W A TW => by
    refine ⟨fun w' T => by have := A.tn.row; rw [List.length_set] at this; exact own_touch this T (fun _ _ e => by cases e), fun w2 g2 c2 hr ht2 hg2 => ?_⟩
    unfold makeS
    rw [if_neg (by omega)]
    have e : S.length = (S.set (m - 1) { tk S m with ch := S.length + 1 }).length := by simp
    have hr' := hr
    rw [e] at hr'
    obtain ⟨sl', r1, r2, r3⟩ := A.tn.app (by rw [← e]; exact hl) (by simpa using hr) ht2 hg2
    rw [← e] at r1 r2
    refine ⟨sl', r1, TW.trans' r2, fun k hk => ?_⟩
    rcases r3 k hk with e | e
    · exact Or.inl e
    · exact Or.inr (Nat.le_trans TW.size e)
  have HC : Hid (∀ W, Ap W t (.slice (some ⟨g, 0, none⟩) S.length c) (S.set (m - 1) { tk S m with ch := S.length + 1 }) w.heap.size ⟨m, 0, (tk S m).why, 0, (tk S m).ch⟩ → (∀ w', Touch (Value.slice (some ⟨g, 0, none⟩) S.length c).ownBlock.toList W w' → w'.cell? ⟨t, 0, none⟩ = some (.slice (some ⟨g, 0, none⟩) S.length c) ∧ w'.frozen? ⟨t, 0, none⟩ = false) ∧ W.cell? ⟨w.heap.size, 0, none⟩ = some (.int .i64 (m : Nat)) ∧ W.cell? ⟨w.heap.size, 1, none⟩ = some (.int .i64 0) ∧ W.cell? ⟨w.heap.size, 2, none⟩ = some (.int .i64 ((tk S m).why : Nat)) ∧ W.cell? ⟨w.heap.size, 3, none⟩ = some (.int .i64 0) ∧ W.cell? ⟨w.heap.size, 4, none⟩ = some (.int .i64 ((tk S m).ch : Nat))) := fun W A => ⟨fun w' T => A.tc T, A.cells (Touch.refl _ W)⟩
  have HD : Hid (cells5 ⟨m, 0, (tk S m).why, 0, (tk S m).ch⟩ = [.int .i64 (m : Nat), .int .i64 0, .int .i64 ((tk S m).why : Nat), .int .i64 0, .int .i64 ((tk S m).ch : Nat)]) := rfl
  have HE : Hid (Value.int .i64 ((S.length + 1 : Nat) : Int) = Value.int .i64 ((S.length : Int) + 1)) := by simp [hid]
  have HLt := hid hl
  clear h hl
  generalize S.length = N at *
  obtain ⟨L, hL⟩ : ∃ L : Int, (N : Int) = L := ⟨_, rfl⟩
  simp only [hL] at HP HE
  have z1 : L < 65536 := by have := HLt.out; omega
  have z2 : 0 ≤ L := by omega
  have z3 : IntKind.i64.wrap (L + 1) = L + 1 := by simp [IntKind.wrap, IntKind.bits, IntKind.signed]; omega
  have z4 : (m : Int) ≠ 0 := by omega
  clear h1 h2
  generalize (m - 1) * 5 = k at *
  generalize ((tk S m).why : Int) = yw at *
  generalize ((tk S m).ch : Int) = yc at *
  generalize (m : Int) = M at *
  unfold PT at *
  go_enter Try.func17, Try.ntmps17
  go_wp2_with (go_at_call 26; refine HF.out.mono ?_; rintro e w1 ⟨rfl, rfl⟩)
  obtain ⟨V, hV⟩ : ∃ V, V = w1.alloc (.cells #[.int .i64 M, .int .i64 0, .int .i64 0, .int .i64 0, .int .i64 0] 61) := ⟨_, rfl⟩
  have TV : Touch [] w1 V := by rw [hV]; exact (Touch.refl _ _).alloc _
  have bV : V.heap[w1.heap.size]? = some (.cells #[.int .i64 M, .int .i64 0, .int .i64 0, .int .i64 0, .int .i64 0] 61 (0, 0)) := by rw [hV]; exact heap_alloc_new _ _
  have fb2 : V.frozen? ⟨w1.heap.size, 2, none⟩ = false := by simp [World.frozen?, bV]
  have cb2 : V.cell? ⟨w1.heap.size, 2, none⟩ = some (.int .i64 0) := by simp [World.cell?, bV]
  have cb4 : V.cell? ⟨w1.heap.size, 4, none⟩ = some (.int .i64 0) := by simp [World.cell?, bV]
  have fb4 : V.frozen? ⟨w1.heap.size, 4, none⟩ = false := by simp [World.frozen?, bV]
  have v2 : V.cell? ⟨g, k + 2, none⟩ = some (.int .i64 yw) := by rw [← x2]; simp [World.cell?, TV.block g hg (by simp)]
  have v3 : V.cell? ⟨g, k + 3, none⟩ = some (.int .i64 yc) := by rw [← x3]; simp [World.cell?, TV.block g hg (by simp)]
  have vf : V.frozen? ⟨g, k + 3, none⟩ = false := by rw [← fz]; simp [World.frozen?, TV.block g hg (by simp)]
  have c0V : V.cell? ⟨t, 0, none⟩ = some (.slice (some ⟨g, 0, none⟩) N c) := by rw [← c0]; simp [World.cell?, TV.block t ht (by simp)]
  rw [← hV]
  have HB := hid bV
  have HTV := hid TV
  have hbg : w1.heap.size ≠ g := by omega
  have hbt : w1.heap.size ≠ t := by omega
  clear hV bV TV x2 x3 fz c0 hg ht
  generalize w1.heap.size = b at *
  have HU := hid (HP.out V HTV.out HB.out)
  clear HP
  go_region
  go_wp2
  obtain ⟨W, hW⟩ : ∃ W, W = (((V.setCell ⟨b, 2, none⟩ (.int .i64 yw)).setCell ⟨b, 4, none⟩ (.int .i64 yc)).setCell ⟨g, k + 3, none⟩ (.int .i64 (L + 1))).drew := ⟨_, rfl⟩
  rw [← hW] at HU ⊢
  obtain ⟨HQ, x1, x2, x3, x4, x5⟩ := HC.out W HU.out.1
  obtain ⟨HO, HN⟩ := HA.out W HU.out.1 HU.out.2
  obtain ⟨x0, -⟩ := HQ W (Touch.refl _ W)
  obtain ⟨xa, -⟩ := HQ _ ((Touch.refl _ W).alloc (.cells #[.int .i64 M, .int .i64 0, .int .i64 yw, .int .i64 0, .int .i64 yc] 61))
  have HO := hid HO
  have HN := hid HN
  have HQ := hid HQ
  rw [HD.out] at HN
  clear HF HA HC HU hW HB HTV fb2 fb4 cb2 cb4 v2 v3 vf c0V HD
  go_region_law ((refine step_append_lies _ (by rfl) _ _ _ (by rfl) 0 61 i0 (.agg #[.int .i64 0, .int .i64 0, .int .i64 0, .int .i64 0, .int .i64 0]) 5 40 Try.underlying54 hi hz0 hz1 hz2 (by rfl) (by decide) (.slice (some ⟨g, 0, none⟩) N c) N (flat5 (S.set (m - 1) { tk S m with ch := N + 1 })) (by rfl) (HO.out _ (by first | exact ((Touch.refl _ _).drew.alloc _) | exact ((Touch.refl _ _).alloc _).drew)) ⟨W.heap.size, 0, none⟩ 1 1 [.int .i64 M, .int .i64 0, .int .i64 yw, .int .i64 0, .int .i64 yc] (by rfl) (by rfl) (cell_five_new _ _ _ _ _ _ _) (by simp [Value.oneCell']) (by decide) (by unfold maxLen; omega) (by omega) (by omega) _ rfl ?_; intro g2 c2 W2 hr hgrow hat hlt; have T2 : Touch (Value.slice (some ⟨g, 0, none⟩) N c).ownBlock.toList W W2 := (((Touch.refl _ W).alloc _).drew).grown hgrow (fun k hk => Or.inl (by simp [hk])); have HE2 := hid (HN.out W2 g2 c2 hr T2 (by rcases hat with e | e; exact Or.inl e; right; rw [e]; simp)); obtain ⟨y0, yf⟩ := HQ.out W2 T2; clear hr hgrow hat hlt T2))
  all_goals
    go_wp2
    exact bodyPost_ret (v := .tuple #[.int .i64 (L + 1), .int .i64 0]) (by simp [results, Try.results17, go_sem]) rfl ⟨by rw [HE.out], HE2.out⟩
end
end Go.Proofs.Ytbjnajiicljnbaa
