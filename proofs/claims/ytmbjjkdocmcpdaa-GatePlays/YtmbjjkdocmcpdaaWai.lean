/- The contracts of wait and Come: who comes to a shut gate waits there behind the others. -/
import Derived.Test.YtmbjjkdocmcpdaaGta
namespace Go.Proofs.Ytmbjjkdocmcpdaa
open Go.RowKit Go.Maps Go.ChangeMaps
set_option linter.unusedVariables false
section
variable {w w' : World} {g : Nat} {op : Nat → Bool} {W : Nat → List Int} {sl : Nat → Value} {m : Option Nat} {L : Nat → List Li} {F : List Nat}
/-- A map is made where there was none. -/
theorem Gl.made (h : Gl w g op sl none L) : Gl ((w.setCell ⟨g, 512, none⟩ (.map (some w.heap.size))).alloc (.map #[] 0)) g op sl (some w.heap.size) L ∧ Touch [g] w ((w.setCell ⟨g, 512, none⟩ (.map (some w.heap.size))).alloc (.map #[] 0)) := by
  have hg := block_lt h.bl
  have ht : Touch [g] w ((w.setCell ⟨g, 512, none⟩ (.map (some w.heap.size))).alloc (.map #[] 0)) := ((Touch.refl _ _).setCell (p := ⟨g, 512, none⟩) (by simp) _).alloc _
  refine ⟨⟨?_, fun i hi => (h.ln i hi).keep ht (fun k hk e => by simp only [List.mem_singleton] at e; subst e; exact h.off i hi hk), h.fu, h.ap, h.off, fun b hb => ?_⟩, ht⟩
  · rw [← gc_setwhere op sl none]
    exact (Below.heap_alloc _ _ _ (by simp [World.setCell]; exact hg)).trans (bset h.bl _)
  · cases hb
    refine ⟨by omega, by simp [World.setCell], fun i hi e => ?_⟩
    have := (h.ln i hi).lt _ e
    omega
theorem lines_le {L : List Li} (h : Full L) : L.length ≤ (wl L).length := by
  induction L with
  | nil => simp
  | cons a r ih =>
    rw [wl_cons]
    have h1 := h a (by simp)
    have h2 := ih (fun l hl => h l (by simp [hl]))
    have h3 : 0 < a.xs.length := List.length_pos_iff.2 h1
    simp only [List.length_cons, List.length_append]
    omega
theorem Gz.lines_le (h : Gz w g op W sl m L) {i : Nat} (hi : i < 256) : (L i).length ≤ tot W := by
  have := Ytmbjjkdocmcpdaa.lines_le (h.gl.fu i hi)
  rw [h.wl i hi] at this
  exact Nat.le_trans this (tot_le W hi)
def WaE (w w' : World) (g : Nat) (F : List Nat) (op : Nat → Bool) (W : Nat → List Int) : Prop := ∃ F', Gs w' g F' op W ∧ Touch F w w' ∧ Nf w F F'
theorem mp_none {V : Nat → List Int} (h : Mp w none V) : ∀ i, i < 256 → V i = [] := by
  rcases h with ⟨_, h⟩ | ⟨b, hb, _⟩
  · exact h
  · cases hb
theorem mp_some {b : Nat} {V : Nat → List Int} (h : Mp w (some b) V) : MapAt w b (tot V) (locv V) := by
  rcases h with ⟨h, _⟩ | ⟨b', hb, hm⟩
  · cases h
  · cases hb; exact hm
theorem fup_wl {V : Nat → List Int} (h : ∀ i, i < 256 → wl (L i) = V i) {i : Nat} {L' : List Li} {l : List Int} (hl : wl L' = l) : ∀ j, j < 256 → wl (fup L i L' j) = fup V i l j := fun j hj => by
  by_cases e : j = i
  · subst e; rw [fup_same, fup_same]; exact hl
  · rw [fup_other _ _ e, fup_other _ _ e]; exact h j hj
set_option maxHeartbeats 4000000 in
set_option maxRecDepth 100000 in
theorem wait21 (h : Gs w g F op W) (n : Int) (hn : inG n = true) (x : Int) (hx : W64 x) (hloc : loc W x = none) (hT : tot W ≤ 4398046511103) :
    Calls Try.prog 21 #[.pointer (some ⟨g, 0, none⟩), .int .i64 n, .int .i64 x] w fun e w' => e = .returned (.tuple #[]) ∧ WaE w w' g F op (fup W n.toNat (W n.toNat ++ [x])) := by
  obtain ⟨hi, hni⟩ := inG_nat hn
  obtain ⟨h0, h1⟩ := inG_yes hn
  obtain ⟨sl, m, L, rfl, h⟩ := h
  have hnx : ¬ x ∈ wl (L n.toNat) := by rw [h.wl _ hi]; exact loc_none.1 hloc _ hi
  have HP := hid (put33 h.gl.bl (gc_lines op sl m hi) (h.gl.ln _ hi) (h.gl.fu _ hi) (h.gl.off _ hi) (Nat.le_trans (h.lines_le hi) (by omega)) x hx hnx)
  have htot : tot (fup W n.toNat (W n.toNat ++ [x])) = tot W + 1 := by
    have := tot_fup W hi (W n.toNat ++ [x])
    simp only [List.length_append, List.length_singleton] at this
    omega
  have hok := h.ok.put hi hx hloc
  have hmx : tot W < maxLen := by unfold maxLen; omega
  cases m with
  | some b =>
    have hm := mp_some h.mp
    have hgb := h.gl.mo b rfl
    have HE : Hid (∀ w2, AtE w w2 g (n.toNat * 2) (gc op sl (some b)) 56 (sl n.toNat) (L n.toNat) (wl (L n.toNat) ++ [x]) → (w2.cell? ⟨g, 512, none⟩ = some (.map (some b)) ∧ MapAt w2 b (tot W) (locv W)) ∧ ∀ ob, MapAt (setBlock w2 b ob) b (if (locv W x).isSome then tot W else tot W + 1) (upd (locv W) x (.int .i64 n)) → WaE w (setBlock w2 b ob) g (fpG g sl (some b) L) op (fup W n.toNat (W n.toNat ++ [x]))) := fun w2 ⟨sl', L', a, hF, hw⟩ => by
      obtain ⟨r1, r2, r3⟩ := h.gl.line hi a hF
      have hm2 := r1.mo b rfl
      refine ⟨⟨cell_at r1.bl (gc_where op _ _), hm.kept (r2.block b hm.lt (fun e => ?_))⟩, fun ob hM => ?_⟩
      · rcases mem_fpG.1 e with e | e | ⟨j, hj, e⟩
        · exact hgb.1 e
        · cases e
        · exact hgb.2.2 j hj e
      · refine ⟨_, ⟨_, some b, _, rfl, r1.map ob, Or.inr ⟨b, rfl, ?_⟩, hok, fup_wl h.wl (by rw [hw, h.wl _ hi])⟩, touch_setBlock (r2.mono (fun k hk => ?_)) (Or.inl (mem_fpG.2 (Or.inr (Or.inl rfl)))) ob, r3⟩
        · rw [htot]
          have e0 : (locv W x).isSome = false := by unfold locv; rw [hloc]; rfl
          rw [e0] at hM
          refine hM.congr (fun k _ => ?_)
          rw [← hni]
          exact locv_put h.ok hi hx hloc k
        · rcases mem_fpG.1 hk with e | e | e
          · exact mem_fpG.2 (Or.inl e)
          · cases e
          · exact mem_fpG.2 (Or.inr (Or.inr e))
    clear h hm hgb htot hok hn hni hloc hnx hi hT
    generalize wl (L n.toNat) ++ [x] = wx at *
    generalize fup W n.toNat (W n.toNat ++ [x]) = W' at *
    have q54 : ∀ (w : World) (r : Option Nat), (binOp .eql 54 (.map r) (.map none)).run Try.prog w = .ok (.bool r.isNone) w := eq68
    go_enter Try.func21, Try.ntmps21
    go_wp2_with (first
      | (go_at_call 33; refine HP.out.mono ?_; rintro e w2 ⟨rfl, a⟩; obtain ⟨⟨c2, hm2⟩, R⟩ := HE.out w2 a; have M2 := hid hm2; have RR := hid R; clear a hm2 R)
      | (at_mapUpdate; refine wpList_mset _ rfl _ _ _ 54 rfl 3 Try.underlying54 b (tot W) (locv W) rfl M2.out hmx x rfl hx _ rfl ?_; intro ob hM; have E := hid (RR.out ob hM); clear hM)
      | fail)
    go_end0
    exact ⟨rfl, E.out⟩
  | none =>
    have hW0 := mp_none h.mp
    have HE : Hid (∀ w2, AtE w w2 g (n.toNat * 2) (gc op sl none) 56 (sl n.toNat) (L n.toNat) (wl (L n.toNat) ++ [x]) → (w2.cell? ⟨g, 512, none⟩ = some (.map none) ∧ w2.frozen? ⟨g, 512, none⟩ = false ∧ g < w2.heap.size) ∧ ∀ V, V = (w2.setCell ⟨g, 512, none⟩ (.map (some w2.heap.size))).alloc (.map #[] 0) → (V.cell? ⟨g, 512, none⟩ = some (.map (some w2.heap.size)) ∧ MapAt V w2.heap.size 0 (fun _ => none)) ∧ ∀ ob, MapAt (setBlock V w2.heap.size ob) w2.heap.size 1 (upd (fun _ => none) x (.int .i64 n)) → WaE w (setBlock V w2.heap.size ob) g (fpG g sl none L) op (fup W n.toNat (W n.toNat ++ [x]))) := fun w2 ⟨sl', L', a, hF, hw⟩ => by
      obtain ⟨r1, r2, r3⟩ := h.gl.line hi a hF
      refine ⟨⟨cell_at r1.bl (gc_where op _ _), froz_at r1.bl _, block_lt r1.bl⟩, fun V hV => ?_⟩
      obtain ⟨s1, s2⟩ := r1.made
      rw [← hV] at s1 s2
      have hmade : MapAt V w2.heap.size 0 (fun _ => none) := by
        rw [hV]
        have := mapAt_made (w2.setCell ⟨g, 512, none⟩ (.map (some w2.heap.size)))
        simpa [World.setCell] using this
      refine ⟨⟨cell_at s1.bl (gc_where op _ _), hmade⟩, fun ob hM => ?_⟩
      have r2' : Touch (fpG g sl none L) w V := r2.trans s2 (fun k hk => by simp only [List.mem_singleton] at hk; subst hk; exact Or.inl (mem_fpG.2 (Or.inl rfl)))
      refine ⟨_, ⟨_, some w2.heap.size, _, rfl, s1.map ob, Or.inr ⟨_, rfl, ?_⟩, hok, fup_wl h.wl (by rw [hw, h.wl _ hi])⟩, touch_setBlock r2' (Or.inr r2.size) ob, fun k hk => ?_⟩
      · rw [htot, tot_zero hW0]
        refine hM.congr (fun k _ => ?_)
        rw [← locv_put h.ok hi hx hloc k, hni]
        unfold upd
        split
        · rfl
        · rw [show locv W k = none by unfold locv; rw [loc_none.2 (fun i hi => by rw [hW0 i hi]; simp)]; rfl]
      · rcases mem_fpG.1 hk with e | e | e
        · exact Or.inl (mem_fpG.2 (Or.inl e))
        · cases e
          exact Or.inr r2.size
        · exact r3 k (mem_fpG.2 (Or.inr (Or.inr e)))
    clear h htot hok hn hni hloc hnx hi hT hW0
    generalize wl (L n.toNat) ++ [x] = wx at *
    generalize fup W n.toNat (W n.toNat ++ [x]) = W' at *
    have q54 : ∀ (w : World) (r : Option Nat), (binOp .eql 54 (.map r) (.map none)).run Try.prog w = .ok (.bool r.isNone) w := eq68
    have hmm := @run_makeMap Try.prog
    go_enter Try.func21, Try.ntmps21
    go_wp2_with (first
      | (go_at_call 33; refine HP.out.mono ?_; rintro e w2 ⟨rfl, a⟩; obtain ⟨⟨c2, f2, g2⟩, R⟩ := HE.out w2 a; have RR := hid R; clear a R)
      | (at_mapUpdate; refine wpList_mset _ rfl _ _ _ 54 rfl 3 Try.underlying54 w2.heap.size 0 (fun _ => none) rfl (RR.out _ rfl).1.2 (by unfold maxLen; omega) x rfl hx (.int .i64 n) rfl ?_; intro ob hM; have E := hid ((RR.out _ rfl).2 ob hM); clear hM)
      | fail)
    go_end0
    exact ⟨rfl, E.out⟩
/-- What Come makes of the gates. -/
def comeW (op : Nat → Bool) (W : Nat → List Int) (n x : Int) : Nat → List Int := if inG n = true ∧ loc W x = none ∧ op n.toNat = false then fup W n.toNat (W n.toNat ++ [x]) else W
def comeE (W : Nat → List Int) (n x : Int) : Int := if inG n = true then (if (loc W x).isSome then 71 else 0) else 70
def comeB (op : Nat → Bool) (W : Nat → List Int) (n x : Int) : Bool := inG n && !(loc W x).isSome && op n.toNat
theorem WaE.same (h : Gs w g F op W) : WaE w w g F op W := ⟨F, h, Touch.refl _ _, Nf.refl _ _⟩
set_option maxHeartbeats 4000000 in
set_option maxRecDepth 100000 in
theorem come9 (h : Gs w g F op W) (n x : Int) (hx : W64 x) (hT : tot W ≤ 4398046511103) :
    Calls Try.prog 9 #[.pointer (some ⟨g, 0, none⟩), .int .i64 n, .int .i64 x] w fun e w' => e = .returned (.tuple #[.bool (comeB op W n x), .int .i64 (comeE W n x)]) ∧ WaE w w' g F op (comeW op W n x) := by
  cases e : inG n with
  | false =>
    have HK := hid (known22_no w g n e)
    have HE := hid (WaE.same h)
    have e1 : comeW op W n x = W := by simp [comeW, e]
    have e2 : comeE W n x = 70 := by simp [comeE, e]
    have e3 : comeB op W n x = false := by simp [comeB, e]
    rw [e1, e2, e3]
    clear h e e1 e2 e3
    go_enter Try.func9, Try.ntmps9
    go_wp2_with (go_at_call 22; refine HK.out.mono ?_; rintro e w2 ⟨rfl, rfl⟩)
    exact bodyPost_ret (v := .tuple #[.bool false, .int .i64 70]) (by simp [results, Try.results9, go_sem]) rfl ⟨rfl, HE.out⟩
  | true =>
    have HK := hid (known22_yes w g n e)
    have HW := hid (where18 h x hx)
    cases e0 : loc W x with
    | some i =>
      have HE := hid (WaE.same h)
      have e1 : comeW op W n x = W := by simp [comeW, e, e0]
      have e2 : comeE W n x = 71 := by simp [comeE, e, e0]
      have e3 : comeB op W n x = false := by simp [comeB, e, e0]
      rw [e1, e2, e3]
      rw [e0] at HW
      simp only [Option.isSome_some] at HW
      clear h e e1 e2 e3 e0
      generalize locI W x = z at *
      go_enter Try.func9, Try.ntmps9
      go_wp2_with (first | (go_at_call 22; refine HK.out.mono ?_; rintro e w2 ⟨rfl, rfl⟩) | (go_at_call 18; refine HW.out.mono ?_; rintro e w2 ⟨rfl, rfl⟩) | fail)
      exact bodyPost_ret (v := .tuple #[.bool false, .int .i64 71]) (by simp [results, Try.results9, go_sem]) rfl ⟨rfl, HE.out⟩
    | none =>
      rw [e0] at HW
      simp only [Option.isSome_none] at HW
      obtain ⟨h1, h2⟩ := inG_nat e
      obtain ⟨c1, f1⟩ := h.cell h1
      cases e4 : op n.toNat with
      | true =>
        have HE := hid (WaE.same h)
        have e1 : comeW op W n x = W := by simp [comeW, e, e0, e4]
        have e2 : comeE W n x = 0 := by simp [comeE, e, e0]
        have e3 : comeB op W n x = true := by simp [comeB, e, e0, e4]
        rw [e1, e2, e3]
        rw [e4] at c1
        clear h e e1 e2 e3 e0 e4 h1 h2
        generalize locI W x = z at *
        generalize n.toNat * 2 = o at *
        go_enter Try.func9, Try.ntmps9
        go_wp2_with (first | (go_at_call 22; refine HK.out.mono ?_; rintro e w2 ⟨rfl, rfl⟩) | (go_at_call 18; refine HW.out.mono ?_; rintro e w2 ⟨rfl, rfl⟩) | fail)
        exact bodyPost_ret (v := .tuple #[.bool true, .int .i64 0]) (by simp [results, Try.results9, go_sem]) rfl ⟨rfl, HE.out⟩
      | false =>
        have HE := hid (wait21 h n e x hx e0 hT)
        have e1 : comeW op W n x = fup W n.toNat (W n.toNat ++ [x]) := by simp [comeW, e, e0, e4]
        have e2 : comeE W n x = 0 := by simp [comeE, e, e0]
        have e3 : comeB op W n x = false := by simp [comeB, e, e0, e4]
        rw [e1, e2, e3]
        rw [e4] at c1
        clear h e e1 e2 e3 e0 e4 h1 h2 hT
        generalize locI W x = z at *
        generalize fup W n.toNat (W n.toNat ++ [x]) = W' at *
        generalize n.toNat * 2 = o at *
        go_enter Try.func9, Try.ntmps9
        go_wp2_with (first | (go_at_call 22; refine HK.out.mono ?_; rintro e w2 ⟨rfl, rfl⟩) | (go_at_call 18; refine HW.out.mono ?_; rintro e w2 ⟨rfl, rfl⟩) | (go_at_call 21; refine HE.out.mono ?_; rintro e w3 ⟨rfl, r⟩; have R := hid r; clear r) | fail)
        exact bodyPost_ret (v := .tuple #[.bool false, .int .i64 0]) (by simp [results, Try.results9, go_sem]) rfl ⟨rfl, R.out⟩
end
end Go.Proofs.Ytmbjjkdocmcpdaa
