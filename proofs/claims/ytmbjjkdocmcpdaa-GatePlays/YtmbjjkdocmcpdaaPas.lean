/- The contracts of pass, Open, Pass and Leave: the first of those who wait are let through, in their order. -/
import Derived.Test.YtmbjjkdocmcpdaaWai
namespace Go.Proofs.Ytmbjjkdocmcpdaa
open Go.RowKit Go.Maps Go.ChangeMaps
set_option linter.unusedVariables false
section
variable {w w' w3 : World} {g : Nat} {op : Nat → Bool} {W : Nat → List Int} {sl : Nat → Value} {m : Option Nat} {L : Nat → List Li} {F : List Nat}
/-- Behind the lines' change the map forgets one. -/
theorem Gz.cut (h : Gz w g op W sl m L) {i : Nat} (hi : i < 256) {x : Int} (hx : x ∈ W i) (a : AtE w w3 g (i * 2) (gc op sl m) 56 (sl i) (L i) (out (W i) x)) :
    ∃ b, w3.cell? ⟨g, 512, none⟩ = some (.map (some b)) ∧ MapAt w3 b (tot W) (locv W) ∧ ∀ ob, MapAt (setBlock w3 b ob) b (if (locv W x).isSome then tot W - 1 else tot W) (del (locv W) x) → WaE w (setBlock w3 b ob) g (fpG g sl m L) op (fup W i (out (W i) x)) := by
  cases m with
  | none =>
    have := mp_none h.mp i hi
    rw [this] at hx
    simp at hx
  | some b =>
    obtain ⟨sl', L', a, hF, hw⟩ := a
    have hm := mp_some h.mp
    have hgb := h.gl.mo b rfl
    obtain ⟨r1, r2, r3⟩ := h.gl.line hi a hF
    refine ⟨b, cell_at r1.bl (gc_where op _ _), hm.kept (r2.block b hm.lt (fun e => ?_)), fun ob hM => ?_⟩
    · rcases mem_fpG.1 e with e | e | ⟨j, hj, e⟩
      · exact hgb.1 e
      · cases e
      · exact hgb.2.2 j hj e
    · have hok := h.ok.less hi (out_sub (W i) x)
      refine ⟨_, ⟨_, some b, _, rfl, r1.map ob, Or.inr ⟨b, rfl, ?_⟩, hok, fup_wl h.wl hw⟩, touch_setBlock (r2.mono (fun k hk => ?_)) (Or.inl (mem_fpG.2 (Or.inr (Or.inl rfl)))) ob, r3⟩
      · have e0 : (locv W x).isSome = true := by unfold locv; rw [(loc_some h.ok).2 ⟨hi, hx⟩]; rfl
        have e1 : tot (fup W i (out (W i) x)) = tot W - 1 := by
          have h1 := tot_fup W hi (out (W i) x)
          have h2 := out_len (h.ok.nd i hi) hx
          omega
        rw [e0, if_pos rfl] at hM
        rw [e1]
        exact hM.congr (fun k _ => locv_out h.ok hi hx k)
      · rcases mem_fpG.1 hk with e | e | e
        · exact mem_fpG.2 (Or.inl e)
        · cases e
        · exact mem_fpG.2 (Or.inr (Or.inr e))
/-- Behind it: the map's cell, the map, and how the gates stand once it has forgotten x. -/
def Cut (w w3 : World) (g : Nat) (F : List Nat) (op : Nat → Bool) (W V : Nat → List Int) (x : Int) (b : Nat) : Prop :=
  w3.cell? ⟨g, 512, none⟩ = some (.map (some b)) ∧ MapAt w3 b (tot W) (locv W) ∧ ∀ ob, MapAt (setBlock w3 b ob) b (if (locv W x).isSome then tot W - 1 else tot W) (del (locv W) x) → WaE w (setBlock w3 b ob) g F op V
def CutE (w w3 : World) (g : Nat) (F : List Nat) (op : Nat → Bool) (W V : Nat → List Int) (x : Int) : Prop := ∃ b, Cut w w3 g F op W V x b
/-- The first line's first one. -/
theorem Gs.head (h : Gs w g F op W) {i : Nat} (hi : i < 256) {x : Int} {r : List Int} (hx : W i = x :: r) (hT : tot W ≤ 4398046511104) :
    ∃ N bb cap q, w.cell? ⟨g, i * 2 + 1, none⟩ = some (.slice (some ⟨bb, 0, none⟩) N cap) ∧ 0 < N ∧ w.cell? ⟨bb, 0, none⟩ = some (.pointer (some ⟨q, 0, none⟩)) ∧
      Calls Try.prog 34 #[.pointer (some ⟨q, 0, none⟩)] w fun e w2 => e = .returned (.tuple #[.int .i64 x, .bool true]) ∧
        Calls Try.prog 35 #[.pointer (some ⟨g, i * 2, none⟩), .int .i64 0] w2 fun e w3 => e = .returned (.tuple #[]) ∧ CutE w w3 g F op W (fup W i r) x := by
  obtain ⟨sl, m, L, rfl, h⟩ := h
  have hwl := h.wl i hi
  rw [hx] at hwl
  have hlen : 0 < (L i).length := by
    cases e : L i with
    | nil => rw [e] at hwl; simp [Ytmbjjkdocmcpdaa.wl] at hwl
    | cons a r => simp
  have hL : (L i).length ≤ 4398046511104 := Nat.le_trans (h.lines_le hi) hT
  have hln := h.gl.ln i hi
  obtain ⟨p, cap, hs⟩ := hln.form
  obtain ⟨bb, hp, hcell⟩ := hln.cell hs hlen
  have c1 := cell_at h.gl.bl (gc_lines op sl m hi)
  have hne := h.gl.fu i hi _ (List.getElem_mem hlen)
  have hsp := wl_split hlen
  simp only [List.take_zero, wl_nil, List.nil_append] at hsp
  obtain ⟨r', hr⟩ : ∃ r', (L i)[0].xs = x :: r' := by
    cases e : (L i)[0].xs with
    | nil => exact absurd e hne
    | cons y r' =>
      rw [e, hwl] at hsp
      simp only [List.cons_append, List.cons.injEq] at hsp
      exact ⟨r', by rw [← hsp.1]⟩
  rw [hs, hp] at c1
  refine ⟨_, bb, cap, (L i)[0].q, c1, hlen, hcell, ?_⟩
  have hu := hln.all _ (List.getElem_mem hlen)
  rw [hr] at hu
  refine (utake_cons w (L i)[0].q (L i)[0].F x r' hu).mono ?_
  rintro e w2 ⟨he, u2, t2⟩
  refine ⟨he, ?_⟩
  have := tidy_after h.gl.bl (gc_lines op sl m hi) hln (h.gl.fu i hi) (h.gl.off i hi) hlen hL u2 t2 (Nf.refl _ _)
  refine this.mono ?_
  rintro e2 w3 ⟨he2, a⟩
  refine ⟨he2, ?_⟩
  have hxs : wl ((L i).take 0) ++ r' ++ wl ((L i).drop (0 + 1)) = out (W i) x := by
    have hnd := h.ok.nd i hi
    rw [hx] at hnd ⊢
    rw [out_head hnd]
    rw [hwl, hr] at hsp
    simp only [List.cons_append, List.cons.injEq, true_and] at hsp
    rw [hsp]
    simp [Ytmbjjkdocmcpdaa.wl]
  rw [hxs] at a
  have hnd := h.ok.nd i hi
  rw [hx] at hnd
  have := h.cut hi (by rw [hx]; simp) a
  rw [hx, out_head hnd] at this
  exact this
theorem Gs.nobody (h : Gs w g F op W) {i : Nat} (hi : i < 256) (hx : W i = []) : ∃ p cap, w.cell? ⟨g, i * 2 + 1, none⟩ = some (.slice p 0 cap) := by
  obtain ⟨sl, m, L, rfl, h⟩ := h
  have hwl := h.wl i hi
  rw [hx] at hwl
  have hlen : (L i).length = 0 := by
    have := Ytmbjjkdocmcpdaa.lines_le (h.gl.fu i hi)
    rw [hwl] at this
    simpa using this
  obtain ⟨p, cap, hs⟩ := (h.gl.ln i hi).form
  have c1 := cell_at h.gl.bl (gc_lines op sl m hi)
  rw [hs, hlen] at c1
  exact ⟨p, cap, c1⟩
/-- Between the rounds of pass. -/
structure Ps (w wr : World) (g : Nat) (F F2 : List Nat) (op : Nat → Bool) (W : Nat → List Int) (i : Nat) (v : Value) (k : Nat) : Prop where
  gs : Gs wr g F2 op (fup W i ((W i).drop k))
  ow : wr.ownsRow w.heap.size 3 1 v k (ints ((W i).take k))
  of : ∀ b, v.ownBlock = some b → ¬ b ∈ F2
  tc : Touch F w wr
  nf : Nf w F F2
def PsE (w wr : World) (g : Nat) (F : List Nat) (op : Nat → Bool) (W : Nat → List Int) (i : Nat) (v : Value) (k : Nat) : Prop := ∃ F2, Ps w wr g F F2 op W i v k
theorem PsE.start (h : Gs w g F op W) (i : Nat) : PsE w w g F op W i (.slice none 0 0) 0 :=
  ⟨F, by rw [List.drop_zero, fup_self]; exact h, World.ownsRow_nil _ _ _ _, fun b hb => (by cases hb), Touch.refl _ _, Nf.refl _ _⟩
/-- One round: one is cut off, and laid behind those who went through. -/
theorem PsE.step {wr w4 w5 : World} {i k : Nat} {v : Value} {F2 : List Nat} {x : Int} {b c : Nat} (h : Ps w wr g F F2 op W i v k) (hk : k < (W i).length) (hx : (W i)[k] = x) (a : WaE wr w4 g F2 op (fup W i ((W i).drop (k + 1)))) (ob : Obj)
    (ow : w5.ownsRow w.heap.size 3 1 (.slice (some ⟨b, 0, none⟩) (k + 1) c) (k + 1) (ints ((W i).take k) ++ [.int .i64 x])) (gr : (w4.alloc ob).grownBy w5 v.ownBlock) (hb : v.ownBlock = some b ∨ b = (w4.alloc ob).heap.size) :
    PsE w w5 g F op W i (.slice (some ⟨b, 0, none⟩) (k + 1) c) (k + 1) := by
  obtain ⟨F3, g3, t3, n3⟩ := a
  have hv3 : ∀ b', v.ownBlock = some b' → ¬ b' ∈ F3 := fun b' hb' e => by
    rcases n3 b' e with e1 | e1
    · exact h.of b' hb' e1
    · have := (h.ow.lt b' hb').2; omega
  have t5 : Touch v.ownBlock.toList w4 w5 := ((Touch.refl _ _).alloc _).grown gr (fun k hk => Or.inl (by simp [hk]))
  have T4 : Touch F w w4 := h.tc.trans t3 (fun j hj => by
    rcases h.nf j hj with e | e
    · exact Or.inl e
    · exact Or.inr e)
  refine ⟨F3, g3.keep t5 (fun k hk e => hv3 k (by simpa using e) hk), ?_, fun b' hb' e => ?_, T4.trans t5 (fun j hj => Or.inr (h.ow.lt j (by simpa using hj)).1), fun j hj => ?_⟩
  · rw [List.take_succ_eq_append_getElem hk, hx]
    have e : ints ((W i).take k ++ [x]) = ints ((W i).take k) ++ [.int .i64 x] := by simp [ints]
    rw [e]
    exact ow
  · have e1 : b = b' := by simpa [Value.ownBlock] using hb'
    subst e1
    rcases hb with e2 | e2
    · exact hv3 b e2 e
    · have := g3.lt b e
      have := ((Touch.refl [] w4).alloc ob).size
      omega
  · rcases n3 j hj with e | e
    · exact h.nf j e
    · exact Or.inr (Nat.le_trans h.tc.size e)
theorem PsE.cut (w : World) {wr : World} {i k : Nat} (hi : i < 256) (hk : k < (W i).length) : fup (fup W i ((W i).drop k)) i ((W i).drop (k + 1)) = fup W i ((W i).drop (k + 1)) := fup_twice _ _ _ _
def lenOf : Value → Nat
  | .slice _ n _ => n
  | _ => 0
def PaE (e : Ending) (w w' : World) (g : Nat) (F : List Nat) (op : Nat → Bool) (W : Nat → List Int) (i : Nat) (k : Nat) : Prop := ∃ v, e = .returned v ∧ PsE w w' g F op W i v k
set_option maxHeartbeats 8000000 in
set_option maxRecDepth 100000 in
theorem pass23 (h : Gs w g F op W) {i : Nat} (hi : i < 256) (n : Int) (hn : 0 ≤ n) (hT : tot W ≤ 4398046511104) :
    Calls Try.prog 23 #[.pointer (some ⟨g, 0, none⟩), .pointer (some ⟨g, i * 2, none⟩), .int .i64 n] w fun e w' => PaE e w w' g F op W i (min n.toNat (W i).length) := by
  obtain ⟨i3, hi3, hz0, hz1, hz2⟩ := info_parts info3
  have hlen : (W i).length ≤ 4398046511104 := Nat.le_trans (tot_le W hi) hT
  have HS := hid (PsE.start h i)
  have HA : Hid (∀ wr k F2 v, Ps w wr g F F2 op W i v k → ∀ (hk : k < (W i).length), ∃ N bb cap q, wr.cell? ⟨g, i * 2 + 1, none⟩ = some (.slice (some ⟨bb, 0, none⟩) N cap) ∧ 0 < N ∧ wr.cell? ⟨bb, 0, none⟩ = some (.pointer (some ⟨q, 0, none⟩)) ∧
      Calls Try.prog 34 #[.pointer (some ⟨q, 0, none⟩)] wr fun e w2 => e = .returned (.tuple #[.int .i64 (W i)[k], .bool true]) ∧
        Calls Try.prog 35 #[.pointer (some ⟨g, i * 2, none⟩), .int .i64 0] w2 fun e w3 => e = .returned (.tuple #[]) ∧ CutE wr w3 g F2 op (fup W i ((W i).drop k)) (fup W i ((W i).drop (k + 1))) (W i)[k]) := fun wr k F2 v hp hk => by
    have h1 : fup W i ((W i).drop k) i = (W i)[k] :: (W i).drop (k + 1) := by rw [fup_same, List.drop_eq_getElem_cons hk]
    have h2 : tot (fup W i ((W i).drop k)) ≤ 4398046511104 := by
      have := tot_fup W hi ((W i).drop k)
      simp only [List.length_drop] at this
      omega
    have := hp.gs.head hi h1 h2
    rw [fup_twice] at this
    exact this
  have HN : Hid (∀ wr F2 v, Ps w wr g F F2 op W i v (W i).length → ∃ p cap, wr.cell? ⟨g, i * 2 + 1, none⟩ = some (.slice p 0 cap)) := fun wr F2 v hp => hp.gs.nobody hi (by rw [fup_same, List.drop_length])
  have HW : Hid (∀ k (hk : k < (W i).length), W64 (W i)[k]) := fun k hk => h.ok.wf i _ hi (List.getElem_mem hk)
  have zn : ((n.toNat : Nat) : Int) = n := by omega
  clear h hT
  go_enter Try.func23, Try.ntmps23
  go_wp2_with fail
  go_loopw [7, 8, 9] (fun v v8 v9 wr => ∃ a k c, v = .slice a k c ∧ k ≤ (W i).length ∧ k ≤ n.toNat ∧ Hid (PsE w wr g F op W i (.slice a k c) k)) (fun v _ _ _ => (W i).length - lenOf v)
  case atStart => exact ⟨none, 0, 0, rfl, Nat.zero_le _, Nat.zero_le _, HS.out⟩
  case round =>
    obtain ⟨a, k, c, rfl, hk, hkn, HR⟩ := hrel
    by_cases h1 : (k : Int) < n
    · by_cases h2 : k < (W i).length
      · obtain ⟨F2, hp⟩ := HR.out
        obtain ⟨N, bb, cap, q, c1, hN, c2, hcall⟩ := HA.out wr k F2 _ hp h2
        have zN : (0 : Int) < (N : Int) := by omega
        have HC := hid hcall
        have HP := hid hp
        have hbw := hp.tc.size
        have hx := HW.out k h2
        have HX : Hid (∀ y, y = (W i)[k] → ∀ w4, WaE wr w4 g F2 op (fup W i ((W i).drop (k + 1))) → (w4.ownsRow w.heap.size 3 1 (.slice a k c) k (ints ((W i).take k)) ∧ w.heap.size ≤ w4.heap.size) ∧ ∀ w5 b c0 ob, w5.ownsRow w.heap.size 3 1 (.slice (some ⟨b, 0, none⟩) (k + 1) c0) (k + 1) (ints ((W i).take k) ++ [.int .i64 y]) → (w4.alloc ob).grownBy w5 (Value.slice a k c).ownBlock → ((Value.slice a k c).ownBlock = some b ∨ b = (w4.alloc ob).heap.size) → PsE w w5 g F op W i (.slice (some ⟨b, 0, none⟩) (k + 1) c0) (k + 1)) := by
          intro y hy w4 hwa
          refine ⟨?_, fun w5 b c0 ob ow gr hb => PsE.step hp h2 hy.symm hwa ob ow gr hb⟩
          obtain ⟨F3, g3, t3, n3⟩ := hwa
          exact ⟨own_touch hp.ow t3 hp.of, Nat.le_trans hp.tc.size t3.size⟩
        clear hcall hp hbw HN HA HS HW
        generalize hy : (W i)[k] = y at *
        have HY := hid (HX.out y rfl)
        have zk : k < 4398046511104 := by omega
        clear hy HX
        generalize ints ((W i).take k) = PV at *
        generalize fup W i ((W i).drop k) = V at *
        generalize fup W i ((W i).drop (k + 1)) = V' at *
        go_wp2_with (first
          | (go_at_call 34; refine HC.out.mono ?_; rintro e w2 ⟨rfl, cc⟩; have CC := hid cc; clear cc)
          | (go_at_call 35; refine CC.out.mono ?_; rintro e w3 ⟨rfl, b, c3, m3, r3⟩; have M3 := hid m3; have R3 := hid r3; clear m3 r3)
          | (at_delete; refine wpList_mdel _ rfl _ _ 54 rfl 3 Try.underlying54 b (tot V) (locv V) rfl M3.out y rfl hx ?_; intro ob hM; have hw4 := R3.out ob hM; generalize setBlock w3 b ob = w4 at *; obtain ⟨⟨ow4, hz4⟩, r4⟩ := HY.out w4 hw4; have O4 := hid ow4; have R4 := hid r4; clear hM hw4 ow4 r4)
          | (at_builtin; refine wpList_append_lies _ rfl _ _ 27 rfl w.heap.size 3 i3 (.int .i64 0) 1 8 Try.underlying27 hi3 hz0 hz1 hz2 rfl (by decide) (.slice a k c) k PV rfl (O4.out.alloc _) ⟨w4.heap.size, 0, none⟩ 1 1 [.int .i64 y] rfl rfl (cell_one_new _ _ _) (by simp [Value.oneCell']) (by decide) (by unfold maxLen; omega) (by omega) (by simp; omega) _ rfl ?_; intro b5 c5 w5 ow5 gr5 hb5 hlt5; have E5 := hid (R4.out w5 b5 c5 _ ow5 gr5 hb5); clear ow5 gr5 hb5 hlt5)
          | fail)
        go_roundw
        case rel => exact ⟨_, k + 1, c5, rfl, by omega, by omega, E5.out⟩
        case measure => simp [lenOf]; omega
      · have e : k = (W i).length := by omega
        have HP := hid HR.out
        obtain ⟨F2, hp⟩ := HR.out
        have hp' := hp
        rw [e] at hp'
        obtain ⟨p, cap, c1⟩ := HN.out wr F2 _ hp'
        have EM : Hid (min n.toNat (W i).length = k) := by show min n.toNat (W i).length = k; omega
        clear hp hp' HA HN HS HW e hkn hk h2 zn
        go_wp2
        go_ret
        exact ⟨_, rfl, by rw [EM.out]; exact HP.out⟩
    · have EM : Hid (min n.toNat (W i).length = k) := by show min n.toNat (W i).length = k; omega
      clear HA HN HS HW hkn hk zn
      go_wp2
      go_ret
      exact ⟨_, rfl, by rw [EM.out]; exact HR.out⟩
/-- A call told xs in a slice of its own, and the gates stand so. -/
def Out (w w' : World) (g : Nat) (F : List Nat) (op : Nat → Bool) (W : Nat → List Int) (v : Value) (xs : List Int) : Prop := w'.ownsRow w.heap.size 3 1 v xs.length (ints xs) ∧ WaE w w' g F op W
def OutE (e : Ending) (w w' : World) (g : Nat) (F : List Nat) (op : Nat → Bool) (W : Nat → List Int) (xs : List Int) (er : Int) : Prop := ∃ v, e = .returned (.tuple #[v, .int .i64 er]) ∧ Out w w' g F op W v xs
theorem OutE.none (h : Gs w g F op W) (er : Int) : OutE (.returned (.tuple #[.slice none 0 0, .int .i64 er])) w w g F op W [] er := ⟨_, rfl, World.ownsRow_nil _ _ _ _, WaE.same h⟩
theorem PsE.out {i k : Nat} {v : Value} (h : PsE w w' g F op W i v k) (hk : k ≤ (W i).length) : Out w w' g F op (fup W i ((W i).drop k)) v ((W i).take k) := by
  obtain ⟨F2, h⟩ := h
  refine ⟨?_, F2, h.gs, h.tc, h.nf⟩
  rw [List.length_take, Nat.min_eq_left hk]
  exact h.ow
set_option maxHeartbeats 4000000 in
theorem open8_yes (h : Gs w g F op W) (n : Int) (hn : inG n = true) (hT : tot W ≤ 4398046511104) :
    Calls Try.prog 8 #[.pointer (some ⟨g, 0, none⟩), .int .i64 n] w fun e w' => OutE e w w' g F (fup op n.toNat true) (fup W n.toNat []) (W n.toNat) 0 := by
  obtain ⟨h1, h2⟩ := inG_nat hn
  obtain ⟨c1, f1⟩ := h.cell h1
  have HF := hid (known22_yes w g n hn)
  obtain ⟨hg, ht⟩ := h.opens h1 true
  have HL := hid (len15 hg)
  have hp := pass23 hg h1 (tot W) (by omega) hT
  rw [show min (tot W : Int).toNat (W n.toNat).length = (W n.toNat).length by have := tot_le W h1; omega] at hp
  have HP : Hid (Calls Try.prog 23 #[.pointer (some ⟨g, 0, none⟩), .pointer (some ⟨g, n.toNat * 2, none⟩), .int .i64 (tot W)] (w.setCell ⟨g, n.toNat * 2, none⟩ (.bool true)) fun e w' => ∃ v, e = .returned v ∧ Out w w' g F (fup op n.toNat true) (fup W n.toNat []) v (W n.toNat)) := by
    refine hp.mono ?_
    rintro e w' ⟨v, he, r⟩
    have := r.out (Nat.le_refl _)
    rw [List.drop_length, List.take_length] at this
    obtain ⟨r1, F2, r2, r3, r4⟩ := this
    refine ⟨v, he, ?_, F2, r2, ht.trans' r3, fun k hk => ?_⟩
    · simpa [World.setCell] using r1
    · rcases r4 k hk with e | e
      · exact Or.inl e
      · exact Or.inr (Nat.le_trans ht.size e)
  clear h hg hp hT h1 h2 hn ht
  generalize fup op n.toNat true = op' at *
  generalize fup W n.toNat [] = W' at *
  generalize W n.toNat = xs at *
  generalize (tot W : Int) = T at *
  generalize op n.toNat = B at *
  generalize n.toNat * 2 = o at *
  go_enter Try.func8, Try.ntmps8
  go_wp2_with (first
    | (go_at_call 22; refine HF.out.mono ?_; rintro e w2 ⟨rfl, rfl⟩)
    | (go_at_call 15; refine HL.out.mono ?_; rintro e w2 ⟨rfl, rfl⟩)
    | (go_at_call 23; refine HP.out.mono ?_; rintro e w3 ⟨v, rfl, r⟩; have R := hid r; clear r)
    | fail)
  exact bodyPost_ret (v := .tuple #[v, .int .i64 0]) (by simp [results, Try.results8, go_sem]) rfl ⟨v, rfl, R.out⟩
theorem open8_no (h : Gs w g F op W) (n : Int) (hn : inG n = false) :
    Calls Try.prog 8 #[.pointer (some ⟨g, 0, none⟩), .int .i64 n] w fun e w' => OutE e w w' g F op W [] 70 := by
  have HF := hid (known22_no w g n hn)
  have HE := hid (OutE.none h 70)
  clear h hn
  go_enter Try.func8, Try.ntmps8
  go_wp2_with (go_at_call 22; refine HF.out.mono ?_; rintro e w2 ⟨rfl, rfl⟩)
  exact bodyPost_ret (v := .tuple #[.slice none 0 0, .int .i64 70]) (by simp [results, Try.results8, go_sem]) rfl HE.out
theorem pass16_no (h : Gs w g F op W) (n k : Int) (hn : inG n = false) :
    Calls Try.prog 16 #[.pointer (some ⟨g, 0, none⟩), .int .i64 n, .int .i64 k] w fun e w' => OutE e w w' g F op W [] 70 := by
  have HF := hid (known22_no w g n hn)
  have HE := hid (OutE.none h 70)
  clear h hn
  go_enter Try.func16, Try.ntmps16
  go_wp2_with (go_at_call 22; refine HF.out.mono ?_; rintro e w2 ⟨rfl, rfl⟩)
  exact bodyPost_ret (v := .tuple #[.slice none 0 0, .int .i64 70]) (by simp [results, Try.results16, go_sem]) rfl HE.out
theorem pass16_neg (h : Gs w g F op W) (n k : Int) (hn : inG n = true) (hk : k < 0) :
    Calls Try.prog 16 #[.pointer (some ⟨g, 0, none⟩), .int .i64 n, .int .i64 k] w fun e w' => OutE e w w' g F op W [] 1 := by
  have HF := hid (known22_yes w g n hn)
  have HE := hid (OutE.none h 1)
  clear h hn
  go_enter Try.func16, Try.ntmps16
  go_wp2_with (go_at_call 22; refine HF.out.mono ?_; rintro e w2 ⟨rfl, rfl⟩)
  exact bodyPost_ret (v := .tuple #[.slice none 0 0, .int .i64 1]) (by simp [results, Try.results16, go_sem]) rfl HE.out
theorem pass16_yes (h : Gs w g F op W) (n k : Int) (hn : inG n = true) (hk : ¬ k < 0) (hT : tot W ≤ 4398046511104) :
    Calls Try.prog 16 #[.pointer (some ⟨g, 0, none⟩), .int .i64 n, .int .i64 k] w fun e w' => OutE e w w' g F op (fup W n.toNat ((W n.toNat).drop k.toNat)) ((W n.toNat).take k.toNat) 0 := by
  obtain ⟨h1, h2⟩ := inG_nat hn
  have HF := hid (known22_yes w g n hn)
  have HP : Hid (Calls Try.prog 23 #[.pointer (some ⟨g, 0, none⟩), .pointer (some ⟨g, n.toNat * 2, none⟩), .int .i64 k] w fun e w' => ∃ v, e = .returned v ∧ Out w w' g F op (fup W n.toNat ((W n.toNat).drop k.toNat)) v ((W n.toNat).take k.toNat)) := by
    refine (pass23 h h1 k (by omega) hT).mono ?_
    rintro e w' ⟨v, he, r⟩
    have := r.out (Nat.min_le_right _ _)
    have e1 : (W n.toNat).take (min k.toNat (W n.toNat).length) = (W n.toNat).take k.toNat := by
      by_cases e : k.toNat ≤ (W n.toNat).length
      · rw [Nat.min_eq_left e]
      · rw [Nat.min_eq_right (by omega), List.take_length, List.take_of_length_le (by omega)]
    have e2 : (W n.toNat).drop (min k.toNat (W n.toNat).length) = (W n.toNat).drop k.toNat := by
      by_cases e : k.toNat ≤ (W n.toNat).length
      · rw [Nat.min_eq_left e]
      · rw [Nat.min_eq_right (by omega), List.drop_length, List.drop_of_length_le (by omega)]
    rw [e1, e2] at this
    exact ⟨v, he, this⟩
  clear h h1 h2 hn hT
  generalize fup W n.toNat ((W n.toNat).drop k.toNat) = W' at *
  generalize (W n.toNat).take k.toNat = xs at *
  generalize n.toNat * 2 = o at *
  go_enter Try.func16, Try.ntmps16
  go_wp2_with (first
    | (go_at_call 22; refine HF.out.mono ?_; rintro e w2 ⟨rfl, rfl⟩)
    | (go_at_call 23; refine HP.out.mono ?_; rintro e w3 ⟨v, rfl, r⟩; have R := hid r; clear r)
    | fail)
  exact bodyPost_ret (v := .tuple #[v, .int .i64 0]) (by simp [results, Try.results16, go_sem]) rfl ⟨v, rfl, R.out⟩
theorem leave17_no (h : Gs w g F op W) (x : Int) (hx : W64 x) (hl : loc W x = none) :
    Calls Try.prog 17 #[.pointer (some ⟨g, 0, none⟩), .int .i64 x] w fun e w' => e = .returned (.tuple #[.int .i64 0, .bool false]) ∧ w' = w := by
  have HW := hid (where18 h x hx)
  unfold locI at HW
  rw [hl] at HW
  simp only [Option.isSome_none] at HW
  clear h hl
  go_enter Try.func17, Try.ntmps17
  go_wp2_with (go_at_call 18; refine HW.out.mono ?_; rintro e w2 ⟨rfl, rfl⟩)
  exact bodyPost_ret (v := .tuple #[.int .i64 0, .bool false]) (by simp [results, Try.results17, go_sem]) rfl ⟨rfl, rfl⟩
set_option maxHeartbeats 4000000 in
theorem leave17_yes (h : Gs w g F op W) (x : Int) (hx : W64 x) {i : Nat} (hl : loc W x = some i) (hT : tot W ≤ 4398046511104) :
    Calls Try.prog 17 #[.pointer (some ⟨g, 0, none⟩), .int .i64 x] w fun e w' => e = .returned (.tuple #[.int .i64 i, .bool true]) ∧ WaE w w' g F op (fup W i (out (W i) x)) := by
  have HW := hid (where18 h x hx)
  unfold locI at HW
  rw [hl] at HW
  simp only [Option.isSome_some] at HW
  obtain ⟨hi, hm⟩ := (loc_some h.ok).1 hl
  have HD : Hid (Calls Try.prog 32 #[.pointer (some ⟨g, i * 2, none⟩), .int .i64 x] w fun e w3 => e = .returned (.tuple #[]) ∧ CutE w w3 g F op W (fup W i (out (W i) x)) x) := by
    obtain ⟨sl, m, L, rfl, h⟩ := h
    have := drop32 h.gl.bl (gc_lines op sl m hi) (h.gl.ln i hi) (h.gl.fu i hi) (h.gl.off i hi) (Nat.le_trans (h.lines_le hi) hT) (by rw [h.wl i hi]; exact h.ok.nd i hi) x hx (by rw [h.wl i hi]; exact hm)
    refine this.mono ?_
    rintro e w3 ⟨he, a⟩
    rw [h.wl i hi] at a
    exact ⟨he, h.cut hi hm a⟩
  generalize fup W i (out (W i) x) = W' at *
  obtain ⟨n, hn⟩ : ∃ n : Int, n = (i : Int) := ⟨_, rfl⟩
  have zt : n.toNat = i := by omega
  rw [← zt] at HD
  rw [← hn] at HW ⊢
  have zi : n < 256 := by omega
  have z0 : 0 ≤ n := by omega
  clear h hl hT hm hi zt hn
  go_enter Try.func17, Try.ntmps17
  go_wp2_with (first
    | (go_at_call 18; refine HW.out.mono ?_; rintro e w2 ⟨rfl, rfl⟩)
    | (go_at_call 32; refine HD.out.mono ?_; rintro e w3 ⟨rfl, b, c3, m3, r3⟩; have M3 := hid m3; have R3 := hid r3; clear m3 r3)
    | (at_delete; refine wpList_mdel _ rfl _ _ 54 rfl 3 Try.underlying54 b (tot W) (locv W) rfl M3.out x rfl hx ?_; intro ob hM; have W4 := hid (R3.out ob hM); clear hM; generalize setBlock w3 b ob = w4 at *)
    | fail)
  exact bodyPost_ret (v := .tuple #[.int .i64 n, .bool true]) (by simp [results, Try.results17, go_sem]) rfl ⟨rfl, W4.out⟩
end
end Go.Proofs.Ytmbjjkdocmcpdaa
