/- The contract of End: all who wait are told the same, and nobody waits any more. -/
import Derived.Test.YtpihhlllembdeaaGreatTel
namespace Go.Proofs.YtpihhlllembdeaaGreat
open Go.RowKit Go.Maps Go.ChangeMaps
set_option linter.unusedVariables false
set_option linter.unusedSimpArgs false
/-- A slice that tells some callers an outcome. -/
def Tv (B : Nat) (w : World) (v : Value) (xs : List Int) (o : O) : Prop := ∃ a c, v = .slice a xs.length c ∧ (xs = [] ∨ ∃ t cur, a = some ⟨t, 0, none⟩ ∧ B ≤ t ∧ w.heap[t]? = some (.cells cur 116 (0, 0)) ∧ ∀ i x, xs[i]? = some x → Tc cur i x o)
theorem Tv.nil (B : Nat) (w : World) (o : O) : Tv B w (.slice none 0 0) [] o := ⟨none, 0, rfl, Or.inl rfl⟩
theorem Tv.keep {B : Nat} {w w' : World} {v : Value} {xs : List Int} {o : O} {F : List Nat} (h : Tv B w v xs o) (T : Touch F w w') (hF : ∀ k, k ∈ F → k < B ∨ ∀ cur, w.heap[k]? ≠ some (.cells cur 116 (0, 0))) : Tv B w' v xs o := by
  obtain ⟨a, c, e, h1 | ⟨t, cur, e1, h2, h3, h4⟩⟩ := h
  · exact ⟨a, c, e, Or.inl h1⟩
  · refine ⟨a, c, e, Or.inr ⟨t, cur, e1, h2, T.keep h3 (fun q => ?_), h4⟩⟩
    rcases hF t q with q1 | q1
    · omega
    · exact q1 cur h3
theorem Tv.keep0 {B : Nat} {w w' : World} {v : Value} {xs : List Int} {o : O} (h : Tv B w v xs o) (T : Touch [] w w') : Tv B w' v xs o := h.keep T (fun _ q => by cases q)
section
variable {w w' : World} {b : Nat} {R : Rn} {sl mp : Value} {k c e : Bool} {o : O}
theorem Rc.set10 (h : Rc w b R sl mp k c e o) (v : Int) : Rc (w.setCell ⟨b, 10, none⟩ (.int .i64 v)) b R sl mp k c e (v, o.2.1, o.2.2.1, o.2.2.2) := ⟨bset h.bl _⟩
theorem Rc.set11 (h : Rc w b R sl mp k c e o) (v : Int) : Rc (w.setCell ⟨b, 11, none⟩ (.int .i64 v)) b R sl mp k c e (o.1, v, o.2.2.1, o.2.2.2) := ⟨bset h.bl _⟩
theorem Rc.set12 (h : Rc w b R sl mp k c e o) (v : Int) : Rc (w.setCell ⟨b, 12, none⟩ (.int .i64 v)) b R sl mp k c e (o.1, o.2.1, v, o.2.2.2) := ⟨bset h.bl _⟩
theorem Rc.set13 (h : Rc w b R sl mp k c e o) (v : Int) : Rc (w.setCell ⟨b, 13, none⟩ (.int .i64 v)) b R sl mp k c e (o.1, o.2.1, o.2.2.1, v) := ⟨bset h.bl _⟩
def endA (w : World) (b : Nat) (o : O) : World := ((((w.setCell ⟨b, 9, none⟩ (.bool true)).setCell ⟨b, 10, none⟩ (.int .i64 o.1)).setCell ⟨b, 11, none⟩ (.int .i64 o.2.1)).setCell ⟨b, 12, none⟩ (.int .i64 o.2.2.1)).setCell ⟨b, 13, none⟩ (.int .i64 o.2.2.2)
def endW (w : World) (b : Nat) : World := ((w.setCell ⟨b, 5, none⟩ (.slice none 0 0)).setCell ⟨b, 6, none⟩ (.map none)).setCell ⟨b, 7, none⟩ (.bool false)
theorem Rc.endA (h : Rc w b R sl mp k c e o) (p : O) : Rc (endA w b p) b R sl mp k c true p := by
  have := ((((h.set9 true).set10 p.1).set11 p.2.1).set12 p.2.2.1).set13 p.2.2.2
  exact this
theorem Rc.endW (h : Rc w b R sl mp k c e o) : Rc (endW w b) b R (.slice none 0 0) (.map none) false c e o := ((h.set5 _).set6 _).set7 _
theorem touch_endA (w : World) (b : Nat) (o : O) : Touch [b] w (endA w b o) := by
  unfold YtpihhlllembdeaaGreat.endA
  exact (((((Touch.refl _ _).setCell (Or.inl (by simp)) _).setCell (Or.inl (by simp)) _).setCell (Or.inl (by simp)) _).setCell (Or.inl (by simp)) _).setCell (Or.inl (by simp)) _
theorem touch_endW (w : World) (b : Nat) : Touch [b] w (endW w b) := by
  unfold YtpihhlllembdeaaGreat.endW
  exact (((Touch.refl _ _).setCell (Or.inl (by simp)) _).setCell (Or.inl (by simp)) _).setCell (Or.inl (by simp)) _
end
def EnE (e : Ending) (w w' : World) (b : Nat) (F : List Nat) (R : Rn) (S : St) (o : O) (N : Nat) : Prop := ∃ v, e = .returned (.tuple #[v, .int .i64 (endE S o)]) ∧ Tv w.heap.size w' v (endL S o) o ∧ RqE w w' b F R (endS S o) N
section
variable (w : World) (b N : Nat) (F : List Nat) (R : Rn) (S : St)
set_option maxHeartbeats 4000000 in
set_option maxRecDepth 100000 in
theorem end11 (h : Rq w b F R S N) (hN : N ≤ 3000000000000) (o : O) : Calls Tryz.prog 56 #[PT b, ov o] w fun e w' => EnE e w w' b F R S o N := by
  obtain ⟨V, hV⟩ : ∃ V, V = w.alloc (.cells #[.int .i64 o.1, .int .i64 o.2.1, .int .i64 o.2.2.1, .int .i64 o.2.2.2] 38) := ⟨_, rfl⟩
  have TV : Hid (Touch [] w V) := by rw [hV]; exact (Touch.refl _ _).alloc _
  have HBX : V.heap[w.heap.size]? = some (.cells #[.int .i64 o.1, .int .i64 o.2.1, .int .i64 o.2.2.1, .int .i64 o.2.2.2] 38 (0, 0)) := by rw [hV]; exact heap_alloc_new w _
  have hv := h.keep0 TV.out
  obtain ⟨sl', mp', ⟨c0, c1, c2, c3, c4, c5, c6, c7, c8, c9, c10, c11, c12, c13⟩, f7⟩ := hv.cs
  clear c0 c1 c2 c3 c4 c5 c6 c7 c8 c10 c11 c12 c13 f7
  have HS : Hid (∀ w', Touch [] V w' → RqE w w' b F R S N) := fun w' T => ⟨F, h.keep0 (TV.out.trans' T), (TV.out.trans' T).mono (fun _ q => by cases q), Nf.refl _ _⟩
  cases hE : S.ended with
  | true =>
    have e1 : endE S o = 110 := by simp [endE, hE]
    have e2 : endS S o = S := by unfold endS; rw [e1]; simp
    have e3 : endL S o = [] := by unfold endL; rw [e1]; simp
    unfold EnE
    rw [e1, e2, e3]
    rw [hE] at c9
    have HX := hid (HS.out V (Touch.refl _ _))
    clear h hv e1 e2 e3 hE HS HBX TV
    rw [hV] at c9 HX
    unfold PT ov
    clear hV
    go_enter Tryz.func56, Tryz.ntmps56
    go_wp2
    exact bodyPost_ret (v := .tuple #[.slice none 0 0, .int .i64 110]) (by simp [results, Tryz.results56, go_sem]) rfl ⟨_, rfl, Tv.nil _ _ _, HX.out⟩
  | false =>
    have HR := hid (fun w => right32 w o)
    rw [hE] at c9
    have B0 : ∀ w', Touch [] V w' → w'.heap[w.heap.size]? = some (.cells #[.int .i64 o.1, .int .i64 o.2.1, .int .i64 o.2.2.1, .int .i64 o.2.2.2] 38 (0, 0)) := fun w' T => T.keep HBX (by simp)
    have HQ : Hid (∀ w', Touch [] V w' → w'.cell? ⟨w.heap.size, 0, none⟩ = some (.int .i64 o.1) ∧ w'.cell? ⟨w.heap.size, 1, none⟩ = some (.int .i64 o.2.1) ∧ w'.cell? ⟨w.heap.size, 2, none⟩ = some (.int .i64 o.2.2.1) ∧ w'.cell? ⟨w.heap.size, 3, none⟩ = some (.int .i64 o.2.2.2)) := fun w' T => ⟨cell_at (B0 w' T) rfl, cell_at (B0 w' T) rfl, cell_at (B0 w' T) rfl, cell_at (B0 w' T) rfl⟩
    clear B0
    obtain ⟨i0, i1, i2, i3⟩ := HQ.out V (Touch.refl _ _)
    cases hr : right o with
    | false =>
      have e1 : endE S o = 30 := by simp [endE, hE, hr]
      have e2 : endS S o = S := by unfold endS; rw [e1]; simp
      have e3 : endL S o = [] := by unfold endL; rw [e1]; simp
      unfold EnE
      rw [e1, e2, e3]
      rw [hr] at HR
      clear h hv e1 e2 e3 hE hr HBX TV HQ
      unfold PT
      unfold ov at *
      go_enter Tryz.func56, Tryz.ntmps56
      go_upto_region 1 with fail
      rw [← hV]
      clear hV
      go_wp2_with (go_at_call 73; refine (HR.out _).mono ?_; rintro e w2 ⟨rfl, t2⟩; have X2 := hid (HS.out _ t2); clear t2)
      exact bodyPost_ret (v := .tuple #[.slice none 0 0, .int .i64 30]) (by simp [results, Tryz.results56, go_sem]) rfl ⟨_, rfl, Tv.nil _ _ _, X2.out⟩
    | true =>
      have e1 : endE S o = 0 := by simp [endE, hE, hr]
      have e2 : endS S o = { S with who := [], ended := true, out := o } := by unfold endS; rw [e1]; simp
      have e3 : endL S o = S.who := by unfold endL; rw [e1]; simp
      have hiv := h.iv.end_ o
      rw [e2] at hiv
      unfold EnE
      rw [e1, e2, e3]
      rw [hr] at HR
      have HLW : Hid (S.who.length ≤ 3000000000000) := Nat.le_trans h.wlen hN
      obtain ⟨sl, m, cs, rfl, hl, hw, hcl, _⟩ := h
      have hlv := hl.keep0 TV.out
      have HA : Hid (∀ w', Touch [] V w' → Calls Tryz.prog 75 #[PL b] w' fun e w2 => AlE e w' w2 S.who) := fun w' T => by
        rw [← hw]
        exact all34 w' b R sl m cs _ _ _ _ (hlv.keep0 T) (by omega)
      have HG : Hid (∀ w', Touch [] V w' → Rc w' b R sl (.map m) (S.kept && !S.ended) S.canc S.ended S.out) := fun w' T => (hlv.keep0 T).rc
      have HBX2 := hid HBX
      have HFN : Hid (∀ w4 t, Touch [] V w4 → ∀ w3, w3.heap.size ≤ t → Touch [] V w3 → TdS w3 w4 t S.who o S.who.length →
          Tv w.heap.size (endW (endA w4 b o) b) (.slice (some ⟨t, 0, none⟩) S.who.length S.who.length) S.who o ∧ RqE w (endW (endA w4 b o) b) b (fpR b sl m) R { S with who := [], ended := true, out := o } N) := fun w4 t T w3 z4 T3 r4 => by
        have hrc := HG.out w4 T
        have TB : Touch [b] w4 (endW (endA w4 b o) b) := (touch_endA _ _ _).trans' (touch_endW _ _)
        have hbl := (hrc.endA o).endW
        refine ⟨?_, fpR b (.slice none 0 0) none, ⟨_, _, [], rfl, ⟨by simpa using hbl, Ln.nil _⟩, rfl, Nat.zero_le _, hiv⟩, ((TV.out.trans' T).mono (fun _ q => by cases q)).trans' (TB.mono (fun q hq => ?_)), fun q hq => ?_⟩
        · obtain ⟨⟨cur, q1, q2, q3⟩, q4⟩ := r4
          have hsz := Nat.le_trans TV.out.size (Nat.le_trans T3.size z4)
          refine (show Tv w.heap.size w4 _ S.who o from ⟨_, _, rfl, Or.inr ⟨t, cur, rfl, hsz, q1, fun i x hx => q3 i x (List.getElem?_eq_some_iff.1 hx).1 hx⟩⟩).keep TB (fun k hk => Or.inl ?_)
          simp only [List.mem_singleton] at hk
          rw [hk]
          exact hl.rc.lt
        · simp only [List.mem_singleton] at hq; exact mem_fpR.2 (Or.inl hq)
        · rcases mem_fpR.1 hq with q1 | q1 | q1
          · exact Or.inl (mem_fpR.2 (Or.inl q1))
          · cases q1
          · cases q1
      have hbw := hl.rc.lt
      have HBL := hid hbw
      clear hv e1 e2 e3 hE hr HBX hl hlv hiv hw hcl HS TV hbw
      unfold PT
      unfold PL at HA
      unfold ov at HR
      unfold ov
      go_enter Tryz.func56, Tryz.ntmps56
      go_upto_region 1 with fail
      rw [← hV]
      clear hV
      go_upto_region 7 with (go_at_call 73; refine (HR.out _).mono ?_; rintro e w2 ⟨rfl, t2⟩; have T2 := hid t2; clear t2)
      have B0 := fun w' T => (HQ.out w' T).1
      have B1 := fun w' T => (HQ.out w' T).2.1
      have B2 := fun w' T => (HQ.out w' T).2.2.1
      have B3 := fun w' T => (HQ.out w' T).2.2.2
      have s0 : Touch [] V w2.drew := T2.out.drew
      clear i0 i1 i2 i3 c9
      refine wp_region_H (S := fun w' => Touch [] V w') (by kernel_rfl) ?_
      refine wpH_take (i := 0) (v := (.pointer (some ⟨b, 0, none⟩))) (some 19) rfl rfl (by kernel_rfl) (by kernel_rfl) (by kernel_rfl) (fun _ _ _ h => h) (Or.inl ⟨by rfl, fun w' hS => (by go_simp)⟩) s0 ?_
      try simp only [Go.Act.put, List.setIfInBounds_toArray, List.set_cons_zero, List.set_cons_succ]
      refine wpH_take (i := 1) (v := (.pointer (some ⟨b, 0, none⟩))) (some 20) rfl rfl (by kernel_rfl) (by kernel_rfl) (by kernel_rfl) (fun _ _ _ h => h) (Or.inl ⟨by rfl, fun w' hS => (by go_simp)⟩) s0 ?_
      try simp only [Go.Act.put, List.setIfInBounds_toArray, List.set_cons_zero, List.set_cons_succ]
      refine wpH_take (i := 2) (v := (.pointer (some ⟨b, 5, none⟩))) (some 21) rfl rfl (by kernel_rfl) (by kernel_rfl) (by kernel_rfl) (fun _ _ _ h => h) (Or.inl ⟨by rfl, fun w' hS => (by go_simp)⟩) s0 ?_
      try simp only [Go.Act.put, List.setIfInBounds_toArray, List.set_cons_zero, List.set_cons_succ]
      refine wpH_take (i := 4) (v := (.agg #[.int .i64 o.1, .int .i64 o.2.1, .int .i64 o.2.2.1, .int .i64 o.2.2.2])) (some 23) rfl rfl (by kernel_rfl) (by kernel_rfl) (by kernel_rfl) (fun _ _ _ h => h) (Or.inl ⟨by rfl, fun w' hS => (by have z0 := B0 _ hS; have z1 := B1 _ hS; have z2 := B2 _ hS; have z3 := B3 _ hS; go_simp)⟩) s0 ?_
      try simp only [Go.Act.put, List.setIfInBounds_toArray, List.set_cons_zero, List.set_cons_succ]
      refine wpH_call (i := 3) (o := { dst := some 22, op := Op.call { callee := Callee.value (Operand.func 75), args := #[Operand.tmp 21], argTypes := #[133] }, type := 75, pos := _, after := #[{ on := 2, ground := Ground.data }], guard := none }) (by kernel_rfl) rfl (fun K' hK => ?_)
      rw [if_pos (by rfl)]
      go_simp
      refine (HA.out _ s0).mono ?_
      rintro e' w3 ⟨g, cap, rfl, r3, t3⟩
      have R3 := hid r3
      have s1 : Touch [] V w3 := s0.trans' t3
      clear r3 t3
      refine hK.out _ _ s1 ?_
      clear hK
      try simp only [Go.Act.put, List.setIfInBounds_toArray, List.set_cons_zero, List.set_cons_succ]
      refine wpH_call (i := 5) (o := { dst := some 24, op := Op.call { callee := Callee.value (Operand.func 74), args := #[Operand.tmp 22, Operand.tmp 23], argTypes := #[75, 38] }, type := 71, pos := _, after := #[{ on := 3, ground := Ground.data }, { on := 4, ground := Ground.data }, { on := 3, ground := Ground.chain }], guard := none }) (by kernel_rfl) rfl (fun K' hK => ?_)
      rw [if_pos (by rfl)]
      go_simp
      refine (tell33 w3 g cap S.who o (own_base R3.out (Nat.zero_le _)) HLW.out).mono ?_
      rintro e' w4 ⟨t, rfl, z4, r4⟩
      have R4 := hid r4
      have Z4 := hid z4
      have s2 : Touch [] V w4 := s1.trans' r4.tc
      clear r4 z4
      refine hK.out _ _ s2 ?_
      clear hK
      try simp only [Go.Act.put, List.setIfInBounds_toArray, List.set_cons_zero, List.set_cons_succ]
      refine wpH_take (i := 6) (v := (.slice (some ⟨t, 0, none⟩) S.who.length S.who.length)) (some 6) rfl rfl (by kernel_rfl) (by kernel_rfl) (by kernel_rfl) (fun _ _ _ h => h) (Or.inl ⟨by rfl, fun w' hS => (by go_simp)⟩) s2 ?_
      try simp only [Go.Act.put, List.setIfInBounds_toArray, List.set_cons_zero, List.set_cons_succ]
      refine wpAnyH_done (by kernel_rfl) ?_ _
      clear B0 B1 B2 B3 HA
      have HF : Hid (Tv w.heap.size (endW (endA w4 b o) b).drew (.slice (some ⟨t, 0, none⟩) S.who.length S.who.length) S.who o ∧ RqE w (endW (endA w4 b o) b).drew b (fpR b sl m) R { S with who := [], ended := true, out := o } N) := by
        obtain ⟨q1, F', q2, q3, q4⟩ := HFN.out w4 t s2 w3 Z4.out s1 R4.out
        exact ⟨q1.keep0 (Touch.refl _ _).drew, F', q2.keep0 (Touch.refl _ _).drew, q3.drew, q4⟩
      have hrc := HG.out _ s2
      have D : ∀ w', Touch [b] w4 w' → w'.heap[w.heap.size]? = some (.cells #[.int .i64 o.1, .int .i64 o.2.1, .int .i64 o.2.2.1, .int .i64 o.2.2.2] 38 (0, 0)) := fun w' T => T.keep (s2.keep HBX2.out (by simp)) (by have := HBL.out; simp; omega)
      have D0 := fun w' T => cell_at (j := 0) (v := .int .i64 o.1) (D w' T) rfl
      have D1 := fun w' T => cell_at (j := 1) (v := .int .i64 o.2.1) (D w' T) rfl
      have D2 := fun w' T => cell_at (j := 2) (v := .int .i64 o.2.2.1) (D w' T) rfl
      have D3 := fun w' T => cell_at (j := 3) (v := .int .i64 o.2.2.2) (D w' T) rfl
      clear HFN HG HBX2 HBL D R3 R4 Z4 T2 s0 s1 HQ HR HLW
      have qf := hrc.fz
      obtain ⟨c0, c1, c2, c3, c4, c5, c6, c7, c8, c9, c10, c11, c12, c13⟩ := hrc.cs
      clear hrc s2 c0 c1 c2 c3 c4
      unfold endW endA at HF
      go_upto_region 8 with fail
      have k0 : Touch [b] w4 w4.drew := (Touch.refl _ _).drew
      refine wp_region_H (S := fun w' => Touch [b] w4 w') (by kernel_rfl) ?_
      refine wpH_take (i := 0) (v := (.pointer (some ⟨b, 0, none⟩))) (some 25) rfl rfl (by kernel_rfl) (by kernel_rfl) (by kernel_rfl) (fun _ _ _ h => h) (Or.inl ⟨by rfl, fun w' hS => (by go_simp)⟩) k0 ?_
      try simp only [Go.Act.put, List.setIfInBounds_toArray, List.set_cons_zero, List.set_cons_succ]
      refine wpH_take (i := 1) (v := (.pointer (some ⟨b, 0, none⟩))) (some 26) rfl rfl (by kernel_rfl) (by kernel_rfl) (by kernel_rfl) (fun _ _ _ h => h) (Or.inl ⟨by rfl, fun w' hS => (by go_simp)⟩) k0 ?_
      try simp only [Go.Act.put, List.setIfInBounds_toArray, List.set_cons_zero, List.set_cons_succ]
      refine wpH_take (i := 2) (v := (.agg #[.int .i64 o.1, .int .i64 o.2.1, .int .i64 o.2.2.1, .int .i64 o.2.2.2])) (some 27) rfl rfl (by kernel_rfl) (by kernel_rfl) (by kernel_rfl) (fun _ _ _ h => h) (Or.inl ⟨by rfl, fun w' hS => (by have z0 := D0 _ hS; have z1 := D1 _ hS; have z2 := D2 _ hS; have z3 := D3 _ hS; go_simp)⟩) k0 ?_
      try simp only [Go.Act.put, List.setIfInBounds_toArray, List.set_cons_zero, List.set_cons_succ]
      refine wpH_take (i := 3) (v := (.pointer (some ⟨b, 0, none⟩))) (some 28) rfl rfl (by kernel_rfl) (by kernel_rfl) (by kernel_rfl) (fun _ _ _ h => h) (Or.inl ⟨by rfl, fun w' hS => (by go_simp)⟩) k0 ?_
      try simp only [Go.Act.put, List.setIfInBounds_toArray, List.set_cons_zero, List.set_cons_succ]
      refine wpH_take (i := 4) (v := (.pointer (some ⟨b, 9, none⟩))) (some 29) rfl rfl (by kernel_rfl) (by kernel_rfl) (by kernel_rfl) (fun _ _ _ h => h) (Or.inl ⟨by rfl, fun w' hS => (by go_simp)⟩) k0 ?_
      try simp only [Go.Act.put, List.setIfInBounds_toArray, List.set_cons_zero, List.set_cons_succ]
      refine wpH_call (i := 5) (o := { dst := none, op := Op.store 4 (Operand.tmp 29) (Operand.const (Value.bool true)), type := 0, pos := _, after := #[{ on := 4, ground := Ground.data }, { on := 0, ground := Ground.phase }, { on := 1, ground := Ground.textOnly Departure.lateStores }, { on := 2, ground := Ground.textOnly Departure.lateStores }], guard := none }) (by kernel_rfl) rfl (fun K' hK => ?_)
      rw [if_pos (by rfl)]
      go_simp
      refine hK.out _ _ (k0.setCell (Or.inl (by simp)) _) ?_
      clear hK
      try simp only [Go.Act.put, List.setIfInBounds_toArray, List.set_cons_zero, List.set_cons_succ]
      refine wpH_take (i := 6) (v := (.pointer (some ⟨b, 0, none⟩))) (some 30) rfl rfl (by kernel_rfl) (by kernel_rfl) (by kernel_rfl) (fun _ _ _ h => h) (Or.inl ⟨by rfl, fun w' hS => (by go_simp)⟩) (k0.setCell (Or.inl (by simp)) _) ?_
      try simp only [Go.Act.put, List.setIfInBounds_toArray, List.set_cons_zero, List.set_cons_succ]
      refine wpH_take (i := 7) (v := (.pointer (some ⟨b, 10, none⟩))) (some 31) rfl rfl (by kernel_rfl) (by kernel_rfl) (by kernel_rfl) (fun _ _ _ h => h) (Or.inl ⟨by rfl, fun w' hS => (by go_simp)⟩) (k0.setCell (Or.inl (by simp)) _) ?_
      try simp only [Go.Act.put, List.setIfInBounds_toArray, List.set_cons_zero, List.set_cons_succ]
      refine wpH_call (i := 8) (o := { dst := none, op := Op.store 38 (Operand.tmp 31) (Operand.tmp 27), type := 0, pos := _, after := #[{ on := 7, ground := Ground.data }, { on := 2, ground := Ground.data }, { on := 5, ground := Ground.chain }, { on := 0, ground := Ground.phase }, { on := 1, ground := Ground.phase }, { on := 2, ground := Ground.phase }, { on := 3, ground := Ground.phase }, { on := 4, ground := Ground.phase }, { on := 5, ground := Ground.phase }], guard := none }) (by kernel_rfl) rfl (fun K' hK => ?_)
      rw [if_pos (by rfl)]
      go_simp
      refine hK.out _ _ (((((k0.setCell (Or.inl (by simp)) _).setCell (Or.inl (by simp)) _).setCell (Or.inl (by simp)) _).setCell (Or.inl (by simp)) _).setCell (Or.inl (by simp)) _) ?_
      clear hK
      try simp only [Go.Act.put, List.setIfInBounds_toArray, List.set_cons_zero, List.set_cons_succ]
      refine wpAnyH_done (by kernel_rfl) ?_ _
      clear D0 D1 D2 D3
      go_wp2
      exact bodyPost_ret (v := .tuple #[.slice (some ⟨t, 0, none⟩) S.who.length S.who.length, .int .i64 0]) (by simp [results, Tryz.results56, go_sem]) rfl ⟨_, rfl, HF.out⟩
end
end Go.Proofs.YtpihhlllembdeaaGreat
