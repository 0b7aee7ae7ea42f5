/- The contract of a line's closeUp. -/
import Derived.Test.YtpihhlllembdeaaGreatLnb
namespace Go.Proofs.YtpihhlllembdeaaGreat
open Go.RowKit Go.Maps Go.ChangeMaps
set_option linter.unusedVariables false
/-- How closeUp stands ahead of a round. -/
structure CuS (w wr : World) (b : Nat) (R : Rn) (k c e : Bool) (o : O) (F : List Nat) (d g cap : Nat) (cs : List Int) (j : Nat) : Prop where
  rc : Rc wr b R (.slice (some ⟨g, 0, none⟩) (wl cs).length cap) (.map (some d)) k c e o
  row : wr.ownsRow 0 3 1 (.slice (some ⟨g, 0, none⟩) (wl cs).length cap) (wl cs).length (ints (wl cs))
  mp : MapAt wr d (wl cs).length (clv cs j)
  tc : Touch F w wr
theorem CuS.ne {w wr : World} {b : Nat} {R : Rn} {k c e : Bool} {o : O} {F : List Nat} {d g cap : Nat} {cs : List Int} {j : Nat} (h : CuS w wr b R k c e o F d g cap cs j) : b ≠ d ∧ g ≠ d := by
  obtain ⟨es, cl, h1⟩ := mapAt_kind h.mp
  obtain ⟨cur, h2⟩ := own_kind h.row (b := g) rfl
  refine ⟨fun q => ?_, fun q => ?_⟩
  · subst q; rw [h.rc.bl] at h1; simp at h1
  · subst q; rw [h2] at h1; simp at h1
theorem CuS.step {w wr : World} {b : Nat} {R : Rn} {k c e : Bool} {o : O} {F : List Nat} {d g cap : Nat} {cs : List Int} {j : Nat} (h : CuS w wr b R k c e o F d g cap cs j) (ok : Okc cs) (hd : d ∈ F) (hj : j < (wl cs).length) (ob : Obj)
    (hM : MapAt (setBlock wr d ob) d (if (clv cs j (wl cs)[j]).isSome then (wl cs).length else (wl cs).length + 1) (upd (clv cs j) (wl cs)[j] (.int .i64 (j : Nat)))) : CuS w (setBlock wr d ob) b R k c e o F d g cap cs (j + 1) := by
  have T : Touch [d] wr (setBlock wr d ob) := touch_setBlock (Touch.refl _ _) (Or.inl (by simp)) ob
  obtain ⟨n1, n2⟩ := h.ne
  refine ⟨h.rc.keep T (by simpa using n1), own_touch h.row T (fun q hq => ?_), ?_, h.tc.trans' (T.mono (fun q hq => by simp at hq; rw [hq]; exact hd))⟩
  · simp only [Value.ownBlock, Option.some.injEq] at hq
    subst hq
    simpa using n2
  · rw [clv_has cs j (List.getElem_mem hj), if_pos rfl] at hM
    exact hM.congr (fun q _ => clv_step ok hj q)
section
variable (w : World) (b : Nat) (R : Rn) (sl : Value) (d : Nat) (cs : List Int) (k c e : Bool) (o : O)
set_option maxHeartbeats 4000000 in
set_option maxRecDepth 100000 in
theorem closeUp39 (h : Rl w b R k c e o sl (some d) cs) (hle : cs.length ≤ 3000000000000) : Calls Tryz.prog 84 #[PL b] w fun e' w' => e' = .returned (.tuple #[]) ∧ LnE w w' b R k c e o (fpR b sl (some d)) (wl cs) := by
  have HA := hid (all34 w b R sl (some d) cs k c e o h hle)
  have hwl := wl_len cs
  have HN : Hid ((wl cs).length ≤ 3000000000000) := by exact hid (by omega)
  have HG : Hid (∀ w2, Touch [] w w2 → (w2.cell? ⟨b, 5, none⟩ = some sl ∧ w2.frozen? ⟨b, 5, none⟩ = false ∧ b < w2.heap.size)) := fun w2 T => ⟨(h.keep0 T).rc.cs.c5, (h.keep0 T).rc.fz 5, (h.keep0 T).rc.lt⟩
  have HS : Hid (∀ g cap w2, Touch [] w w2 → w2.ownsRow w.heap.size 3 1 (.slice (some ⟨g, 0, none⟩) (wl cs).length cap) (wl cs).length (ints (wl cs)) → CuS w (w2.setCell ⟨b, 5, none⟩ (.slice (some ⟨g, 0, none⟩) (wl cs).length cap)) b R k c e o (fpR b sl (some d)) d g cap cs 0) := fun g cap w2 T r => by
    have h2 := h.keep0 T
    have tB : Touch [b] w2 (w2.setCell ⟨b, 5, none⟩ (.slice (some ⟨g, 0, none⟩) (wl cs).length cap)) := (Touch.refl _ _).setCell (Or.inl (by simp)) _
    have hm := h2.ln.mp.keep tB (fun q hq e' => by simp only [List.mem_singleton] at e'; exact map_ne h2.rc h2.ln.mp hq e')
    refine ⟨h2.rc.set5 _, own_touch (own_base r (Nat.zero_le _)) tB (fun q hq e' => ?_), ?_, (T.mono (fun _ q => by cases q)).trans' (tB.mono (fun q hq => by simp at hq; rw [hq]; exact mem_fpR.2 (Or.inl rfl)))⟩
    · simp only [List.mem_singleton] at e'
      exact row_ne h2.rc r hq e'
    · rcases hm with ⟨q, _⟩ | ⟨d', q, hm⟩
      · cases q
      · cases q
        exact hm.congr (fun q _ => (clv_zero cs q).symm)
  have HT : Hid (∀ wr g cap j, CuS w wr b R k c e o (fpR b sl (some d)) d g cap cs j → ∀ (hj : j < (wl cs).length) ob, MapAt (setBlock wr d ob) d (if (clv cs j (wl cs)[j]).isSome then (wl cs).length else (wl cs).length + 1) (upd (clv cs j) (wl cs)[j] (.int .i64 (j : Nat))) → CuS w (setBlock wr d ob) b R k c e o (fpR b sl (some d)) d g cap cs (j + 1)) := fun wr g cap j hc hj ob hM => hc.step h.ln.ok (mem_fpR.2 (Or.inr (Or.inr rfl))) hj ob hM
  have HW : Hid (∀ x, x ∈ wl cs → W64 x) := fun x hx => h.ln.ok.wf x (mem_wl.1 hx).1
  have HE : Hid (∀ wr g cap, w.heap.size ≤ g → CuS w wr b R k c e o (fpR b sl (some d)) d g cap cs (wl cs).length → LnE w wr b R k c e o (fpR b sl (some d)) (wl cs)) := fun wr g cap hg hc => by
    refine ⟨_, some d, ⟨hc.rc, ⟨hc.row, Or.inr ⟨d, rfl, ?_⟩, h.ln.ok.close⟩⟩, hc.tc, fun q hq => ?_⟩
    · rw [wl_wl]
      exact hc.mp.congr (fun q _ => clv_last cs q)
    · rcases mem_fpR.1 hq with e' | e' | e'
      · exact Or.inl (mem_fpR.2 (Or.inl e'))
      · simp only [Value.ownBlock, Option.some.injEq] at e'
        subst e'
        exact Or.inr hg
      · exact Or.inl (mem_fpR.2 (Or.inr (Or.inr e')))
  clear h hle hwl
  unfold AlE at HA
  unfold PL at *
  go_enter Tryz.func84, Tryz.ntmps84
  go_wp2_with (go_at_call 75; refine HA.out.mono ?_; rintro e w2 ⟨g, cap, rfl, r2, t2⟩; have H0 := hid (HS.out g cap w2 t2 r2); have HGG := hid ((own_block r2).choose_spec.2.2.2.2.2.1); obtain ⟨y1, y2, y3⟩ := HG.out w2 t2; clear r2 t2)
  clear HA HS HG
  have c5 := H0.out.rc.cs.c5
  go_loopw [14] (fun i wr => ∃ j : Nat, i = .int .i64 (j : Nat) ∧ j ≤ (wl cs).length ∧ Hid (CuS w wr b R k c e o (fpR b sl (some d)) d g cap cs j)) (fun i _ => (wl cs).length - (intOf i).toNat)
  case atStart => exact ⟨0, rfl, Nat.zero_le _, H0⟩
  case round =>
    clear H0
    obtain ⟨j, rfl, hj, HR⟩ := hrel
    by_cases hlt : j < (wl cs).length
    · have zk : (j : Int) < ((wl cs).length : Int) := by omega
      have zL : ((wl cs).length : Int) < 9223372036854775807 := by have := HN.out; omega
      have x1 := own_cell HR.out.row (p := j) (v := .int .i64 (wl cs)[j]) (by simp [ints, hlt])
      have x2 := HR.out.rc.cs.c6
      have HM := hid HR.out.mp
      have hxw := HW.out _ (List.getElem_mem hlt)
      have HNX : Hid ((wl cs).length < maxLen) := by have := HN.out; unfold maxLen; exact hid (by omega)
      have HT2 := hid (HT.out wr g cap j HR.out hlt)
      clear c5 y1 y2 y3
      generalize (wl cs)[j] = x at *
      go_wp2_with (at_mapUpdate; refine wpList_mset _ rfl _ _ _ 131 rfl 3 Tryz.underlying131 d (wl cs).length (clv cs j) rfl HM.out HNX.out x rfl hxw (.int .i64 (j : Nat)) rfl ?_; intro ob hM; have HN2 := hid (HT2.out ob hM); clear hM)
      go_roundw
      case rel => exact ⟨j + 1, by go_num, by omega, HN2⟩
      case measure => simp [intOf]; omega
    · have e' : j = (wl cs).length := by omega
      subst e'
      have HX := hid (HE.out _ _ _ HGG.out HR.out)
      clear hj hlt
      go_wp2
      go_end0
      exact ⟨rfl, HX.out⟩
end
end Go.Proofs.YtpihhlllembdeaaGreat
