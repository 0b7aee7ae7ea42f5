/- The contract of the document's Pass. -/
import Derived.Test.YtmbjjkdocmcpdaaPlt
import Derived.Test.YtmbjjkdocmcpdaaHlg
namespace Go.Proofs.Ytmbjjkdocmcpdaa
open Go.RowKit Go.Maps Go.ChangeMaps
set_option linter.unusedVariables false
set_option linter.unusedSimpArgs false
theorem Rd.keepB {w w' : World} {v : Value} {xs : List Int} {b : Nat} {c : Array Value} {t : TypeId} {fr : Nat × Nat} {q : Bool} (h : Rd w v xs) (T : Touch [b] w w') (hb : w.heap[b]? = some (.cells c t fr)) (h0 : c[0]? = some (.bool q)) : Rd w' v xs := by
  obtain ⟨a, k, rfl, h1, h2, h3, h4⟩ := h
  refine ⟨a, k, rfl, h1, h2, h3, ?_⟩
  rcases h4 with e | ⟨g, cur, e, z, rfl, hg, hc⟩
  · exact Or.inl e
  · by_cases hx : xs.length = 0
    · exact Or.inl (List.length_eq_zero_iff.1 hx)
    · refine Or.inr ⟨g, cur, e, z, rfl, T.keep hg (fun eg => ?_), hc⟩
      simp only [List.mem_singleton] at eg
      subst eg
      rw [hg] at hb
      cases hb
      have := hc 0 (by omega)
      rw [h0] at this
      cases this
theorem Ds.keepB {w w' : World} {c c2 : Array Value} {op : Nat → Bool} {ps : List (Int × Int)} {A B : Value} {b : Nat} {t : TypeId} {fr : Nat × Nat} {q : Bool} (h : Ds w c op ps A B) (T : Touch [b] w w') (hb : w.heap[b]? = some (.cells c2 t fr)) (h0 : c2[0]? = some (.bool q)) : Ds w' c op ps A B :=
  ⟨h.eq, h.who.keepB T hb h0, h.at_.keepB T hb h0⟩
theorem exec_load29 {w : World} {o : Oper} {a : Go.Act} (p : Operand) (hop : o.op = Op.load 29 p) {g : Nat} {c : Array Value} {t : TypeId} {fr : Nat × Nat} (hp : a.eval p = .pointer (some ⟨g, 0, none⟩)) (hb : w.heap[g]? = some (.cells c t fr)) (hc : c.size = 258) : (execOp a.eval o).run Try.prog w = .ok (.value (.agg c)) w := by
  have hrun := at_load29 w hb hc
  simp only [execOp, hop, hp, hrun, Sem.run_bind, Sem.run_pure, Result.andThen_ok]
theorem wp_store29 {w : World} {o : Oper} {a : Go.Act} {K : Go.Act → World → Prop} {Q : Exit → Go.Act → World → Prop} (p v : Operand) (hop : o.op = Op.store 29 p v) (g : Nat) (c c' : Array Value) (t : TypeId) (hp : a.eval p = .pointer (some ⟨g, 0, none⟩)) (hv : a.eval v = .agg c') (hb : w.heap[g]? = some (.cells c t (0, 0))) (hc : c.size = 258) (hd : Dg c')
    (hK : ∀ w', w'.heap[g]? = some (.cells c' t (0, 0)) → Touch [g] w w' → w'.heap.size = w.heap.size → K (a.put o.dst undef) w') : Oper.wp Try.prog o a w K Q := by
  have hrun := at_store29 w hb hc hd
  unfold Oper.wp
  simp only [execOp, hop, hp, hv, hrun, Sem.run_bind, Sem.run_pure, Result.andThen_ok]
  exact hK _ (setRow_heap w g c c' t (0, 0) hb) (touch_setRow w g c') (by simp [World.setRow])
/-- Leave, whoever leaves. -/
def LvE (e : Ending) (w w' : World) (op : Nat → Bool) (ps : List (Int × Int)) : Prop := ∃ c A B v1 v2, e = .returned (.tuple #[.agg c, v1, v2]) ∧ Ds w' c op ps A B ∧ Touch [] w w'
section
variable {w : World} {c : Array Value} {op : Nat → Bool} {ps : List (Int × Int)} {A B : Value}
theorem leave27_any (h : Ds w c op ps A B) (hd : Dk ps) (x : Int) (hl : ps.length ≤ 4398046511104) : Calls Try.prog 27 #[.agg c, .int .i64 x] w fun e w' => LvE e w w' op (lv ps x) := by
  cases e : pos (ps.map (·.1)) x with
  | none =>
    refine (leave27_no h x hl (by unfold posI; rw [e])).mono ?_
    rintro e1 w' ⟨c', A', B', he, hs, t⟩
    rw [lv_no (pos_none e)]
    exact ⟨c', A', B', _, _, he, hs, t⟩
  | some k =>
    obtain ⟨hk, h1, h2⟩ := pos_some e
    have hk' : k < ps.length := by simpa using hk
    refine (leave27_yes h x hl hk' (by unfold posI; rw [e])).mono ?_
    rintro e1 w' ⟨c', A', B', he, hs, t⟩
    rw [lv_erase hd.nd hk', show ps[k].1 = x by simpa using h1] at hs
    exact ⟨c', A', B', _, _, he, hs, t⟩
/-- What Pass and Lay answer. -/
def RpE (e : Ending) (w w' : World) (op : Nat → Bool) (ps : List (Int × Int)) (L : List Int) (er : Int) : Prop := ∃ c A B v, e = .returned (.tuple #[.agg c, v, .int .i64 er]) ∧ Ds w' c op ps A B ∧ Rd w' v L ∧ Touch [] w w'
/-- Between the rounds of Pass. -/
def PlS (w wr : World) (b1 b2 : Nat) (d : Array Value) (op : Nat → Bool) (ps : List (Int × Int)) (L : List Int) (j : Nat) (v : Value) : Prop := ∃ c A B, Bx w wr b1 b2 c d ∧ Ds wr c op (lvs (L.take j) ps) A B ∧ Rd wr v L
theorem PlS.step {wr w4 w5 : World} {b1 b2 : Nat} {c c4 d : Array Value} {L : List Int} {j : Nat} {v A4 B4 : Value} {q0 q1 : Bool} (hB : Bx w wr b1 b2 c d) (h0 : c[0]? = some (.bool q0)) (hr : Rd wr v L) (hj : j < L.length) (t4 : Touch [] wr w4) (h4 : Ds w4 c4 op (lv (lvs (L.take j) ps) L[j]) A4 B4) (h5 : w5.heap[b1]? = some (.cells c4 29 (0, 0))) (t5 : Touch [b1] w4 w5) : PlS w w5 b1 b2 d op ps L (j + 1) v := by
  have hB4 := hB.keep t4
  refine ⟨c4, A4, B4, ⟨h5, t5.keep hB4.h2 (by simpa using Ne.symm hB.ne), hB4.tc.trans t5 (fun i hi => Or.inr (by simp only [List.mem_singleton] at hi; rw [hi]; exact hB.n1)), hB.n1, hB.n2, hB.ne⟩, ?_, (hr.keep0 t4).keepB t5 hB4.h1 h0⟩
  have e : lvs (L.take (j + 1)) ps = lv (lvs (L.take j) ps) L[j] := by
    unfold lvs
    rw [List.take_succ_eq_append_getElem hj, List.foldl_append]
    rfl
  rw [e]
  exact h4.keepB t5 hB4.h1 h0
set_option maxHeartbeats 8000000 in
set_option maxRecDepth 100000 in
theorem pass26_all (h : Ds w c op ps A B) (hd : Dk ps) (n k : Int) (hn : inG n = true) (hk : ¬ k < 0) (hl : ps.length ≤ 4398046511104) (hkl : ¬ k < (wOf ps n).length) : Calls Try.prog 26 #[.agg c, .int .i64 n, .int .i64 k] w fun e w' => RpE e w w' op (lvs ((wOf ps n).take k.toNat) ps) ((wOf ps n).take k.toNat) 0 := by
  have z29 := zero29
  have d0 := dc_size (fun _ => false) (.slice none 0 0) (.slice none 0 0)
  have dz := dc_open (fun _ => false) (.slice none 0 0) (.slice none 0 0) (show 0 < 256 by omega)
  generalize dc (fun _ => false) (.slice none 0 0) (.slice none 0 0) = d at *
  obtain ⟨W1, hW1⟩ : ∃ W1, W1 = (w.alloc (.cells c 29)).alloc (.cells d 29) := ⟨_, rfl⟩
  have bx := Bx.start w c d
  rw [← hW1] at bx
  have HI : Hid (∀ W, Calls Try.prog 29 #[.int .i64 n] W fun e w' => e = .returned (.bool true) ∧ w' = W) := fun W => by rw [← hn]; exact is29 W n
  have HD := hid h.dg
  have HDs := hid (And.intro d0 dz)
  have HB := hid bx
  have HW := hid hW1
  have HWt := hid (waiting14 (h.keep0 bx.tc) n hl)
  have hLt : (wOf ps n).take k.toNat = wOf ps n := List.take_of_length_le (by omega)
  rw [hLt]
  obtain ⟨L, hL⟩ : ∃ L, L = wOf ps n := ⟨_, rfl⟩
  have hlenL : L.length ≤ 4398046511104 := by rw [hL]; exact Nat.le_trans (wOf_len ps n) hl
  rw [← hL] at hkl HWt ⊢
  have HS : Hid (∀ W v, Bx w W w.heap.size (w.heap.size + 1) c d → Rd W v L → PlS w W w.heap.size (w.heap.size + 1) d op ps L 0 v) := fun W v b r => ⟨c, A, B, b, h.keep0 b.tc, r⟩
  have HC : Hid (∀ W c' A' B' j (hj : j < L.length), Ds W c' op (lvs (L.take j) ps) A' B' → Calls Try.prog 27 #[.agg c', .int .i64 L[j]] W fun e w' => LvE e W w' op (lv (lvs (L.take j) ps) L[j])) := fun W c' A' B' j hj hs => leave27_any hs (hd.sub (lvs_sub _ _)) L[j] (Nat.le_trans (lvs_sub _ _).length_le hl)
  have HE : Hid (∀ W W' c' v, Bx w W w.heap.size (w.heap.size + 1) c' d → ∀ A' B', Ds W c' op (lvs L ps) A' B' → Rd W v L → W'.heap[w.heap.size + 1]? = some (.cells c' 29 (0, 0)) → Touch [w.heap.size + 1] W W' → RpE (.returned (.tuple #[.agg c', v, .int .i64 0])) w W' op (lvs L ps) L 0) := fun W W' c' v b A' B' hs hr h2 t2 => ⟨c', A', B', v, rfl, hs.keepB t2 b.h2 HDs.out.2, hr.keepB t2 b.h2 HDs.out.2, (b.fill h2 t2).tc⟩
  obtain ⟨hn0, hn1⟩ := inG_yes hn
  clear h hd d0 dz bx hW1 hn hLt hL hl
  go_enter Try.func26, Try.ntmps26
  go_upto_region 1 with fail
  rw [← HW.out]
  clear HW
  generalize w.heap.size = b1 at *
  generalize b1 + 1 = b2 at *
  have WT : Hid (Calls Try.prog 14 #[.agg c, .int .i64 n] W1 fun e w' => ∃ a q, e = .returned (.slice a L.length q) ∧ PlS w w' b1 b2 d op ps L 0 (.slice a L.length q)) := by
    refine HWt.out.mono ?_
    rintro e w' ⟨v, he, ow, t'⟩
    obtain ⟨a, q, rfl⟩ := own_form ow
    exact ⟨a, q, he, HS.out w' _ (HB.out.keep t') (Rd.of_own ow)⟩
  have zl : (L.length : Int) ≤ 4398046511104 := by omega
  clear HS HWt
  go_wp2_with (first
    | (go_at_call 29; refine (HI.out _).mono ?_; rintro e w2 ⟨rfl, rfl⟩)
    | (refine wpList_load29 rfl _ rfl b1 c 29 (0, 0) rfl HB.out.h1 HD.out.size ?_)
    | (go_at_call 14; refine WT.out.mono ?_; rintro e w4 ⟨a4, q4, rfl, p4⟩; have P4 := hid p4; clear p4)
    | fail)
  clear WT HB HI HD
  go_loopw [10] (fun i wr => ∃ j : Nat, i = .int .i64 j ∧ j ≤ L.length ∧ Hid (PlS w wr b1 b2 d op ps L j (.slice a4 L.length q4))) (fun i _ => L.length - (intOf i).toNat)
  case atStart => exact ⟨0, rfl, Nat.zero_le _, P4.out⟩
  case round =>
    obtain ⟨j, rfl, hj, HP⟩ := hrel
    clear P4
    obtain ⟨c5, A5, B5, hB5, hs5, hr5⟩ := HP.out
    by_cases hlt : j < L.length
    · have zj : (j : Int) < (L.length : Int) := by omega
      obtain ⟨b5, e5, y5⟩ := hr5.cell hlt
      subst e5
      have hq0 := hs5.cells.2.2 0 (by omega)
      have hsz := hs5.dg.size
      have HB5 := hid hB5
      have HS5 := hid hs5
      have HR5 := hid hr5
      have HLv : Hid (∀ W, Touch [] wr W → Calls Try.prog 27 #[.agg c5, .int .i64 L[j]] W fun e w' => LvE e W w' op (lv (lvs (L.take j) ps) L[j])) := fun W T => HC.out W c5 A5 B5 j hlt (hs5.keep0 T)
      have HSt : Hid (∀ w4 w5 c4 A4 B4, Touch [] wr w4 → Ds w4 c4 op (lv (lvs (L.take j) ps) L[j]) A4 B4 → w5.heap[b1]? = some (.cells c4 29 (0, 0)) → Touch [b1] w4 w5 → PlS w w5 b1 b2 d op ps L (j + 1) (.slice (some ⟨b5, 0, none⟩) L.length q4)) := fun w4 w5 c4 A4 B4 t4 h4 h5 t5 => PlS.step (q0 := op 0) (q1 := true) hB5 hq0 hr5 hlt t4 h4 h5 t5
      have HL := hid hlt
      clear hs5 hr5 HP HC HE hq0
      generalize L[j] = y at *
      go_upto_region 11 with fail
      refine wp_region_L (S := (fun w' => w'.heap[b1]? = some (.cells c5 29 (0, 0)) ∧ w'.cell? ⟨b5, j, none⟩ = some (.int .i64 y))) (st := 10) (by kernel_rfl) ?_
      have hS0 : wr.drew.heap[b1]? = some (.cells c5 29 (0, 0)) ∧ wr.drew.cell? ⟨b5, j, none⟩ = some (.int .i64 y) := ⟨hB5.h1, y5⟩
      refine wpL_take (i := 0) (v := .agg c5) (some 35) rfl rfl (by kernel_rfl) (by kernel_rfl) (by kernel_rfl) (by kernel_rfl) (by kernel_rfl) (by decide) (fun _ _ _ h => h) (Or.inl ⟨by rfl, fun w' hS => exec_load29 _ rfl rfl hS.1 hsz⟩) hS0 ?_
      try simp only [Go.Act.put, List.setIfInBounds_toArray, List.set_cons_zero, List.set_cons_succ]
      refine wpL_take (i := 1) (v := .slice (some ⟨b5, 0, none⟩) L.length q4) (some 36) rfl rfl (by kernel_rfl) (by kernel_rfl) (by kernel_rfl) (by kernel_rfl) (by kernel_rfl) (by decide) (fun _ _ _ h => h) (Or.inl ⟨by rfl, fun w' hS => (by obtain ⟨hs1, hs2⟩ := hS; go_simp)⟩) hS0 ?_
      try simp only [Go.Act.put, List.setIfInBounds_toArray, List.set_cons_zero, List.set_cons_succ]
      refine wpL_take (i := 2) (v := .int .i64 (j : Int)) (some 37) rfl rfl (by kernel_rfl) (by kernel_rfl) (by kernel_rfl) (by kernel_rfl) (by kernel_rfl) (by decide) (fun _ _ _ h => h) (Or.inl ⟨by rfl, fun w' hS => (by obtain ⟨hs1, hs2⟩ := hS; go_simp)⟩) hS0 ?_
      try simp only [Go.Act.put, List.setIfInBounds_toArray, List.set_cons_zero, List.set_cons_succ]
      refine wpL_take (i := 3) (v := .pointer (some ⟨b5, j, none⟩)) (some 38) rfl rfl (by kernel_rfl) (by kernel_rfl) (by kernel_rfl) (by kernel_rfl) (by kernel_rfl) (by decide) (fun _ _ _ h => h) (Or.inl ⟨by rfl, fun w' hS => (by obtain ⟨hs1, hs2⟩ := hS; go_simp)⟩) hS0 ?_
      try simp only [Go.Act.put, List.setIfInBounds_toArray, List.set_cons_zero, List.set_cons_succ]
      refine wpL_take (i := 4) (v := .int .i64 y) (some 39) rfl rfl (by kernel_rfl) (by kernel_rfl) (by kernel_rfl) (by kernel_rfl) (by kernel_rfl) (by decide) (fun _ _ _ h => h) (Or.inl ⟨by rfl, fun w' hS => (by obtain ⟨hs1, hs2⟩ := hS; go_simp)⟩) hS0 ?_
      try simp only [Go.Act.put, List.setIfInBounds_toArray, List.set_cons_zero, List.set_cons_succ]
      refine wpL_ready (rs := [5]) (by kernel_rfl) (by simp) (AllL.cons (o := { dst := some 40, op := Op.call { callee := Callee.value (Operand.func 27), args := #[Operand.tmp 35, Operand.tmp 39], argTypes := #[29, 3] }, type := 67, pos := _, after := #[{ on := 0, ground := Ground.data }, { on := 4, ground := Ground.data }], guard := none }) rfl (fun K' hK => ?_) AllL.nil)
      rw [if_pos (by rfl)]
      go_simp
      refine (HLv.out _ ((Touch.refl _ _).drew)).mono ?_
      rintro e w4 ⟨c4, A4, B4, v1, v2, rfl, s4, t4⟩
      have t4' : Touch [] wr w4 := ((Touch.refl _ _).drew).trans' t4
      have hS4 : w4.heap[b1]? = some (.cells c5 29 (0, 0)) ∧ w4.cell? ⟨b5, j, none⟩ = some (.int .i64 y) := ⟨t4'.keep hB5.h1 (by simp), by rw [World.cell?_of_block (t4'.block b5 (HR5.out.lt (by have := HL.out; omega)) (by simp))]; exact y5⟩
      have H4 := hid (And.intro t4' s4)
      have D4 := hid s4.dg
      clear t4 t4' s4
      refine hK.out _ _ (fun _ => hS4) ?_
      clear hK
      try simp only [Go.Act.put, List.setIfInBounds_toArray, List.set_cons_zero, List.set_cons_succ]
      refine wpL_take (i := 6) (v := .tuple #[.agg c4, v1, v2]) (some 34) rfl rfl (by kernel_rfl) (by kernel_rfl) (by kernel_rfl) (by kernel_rfl) (by kernel_rfl) (by decide) (fun _ _ _ h => h) (Or.inl ⟨by rfl, fun w' hS => (by obtain ⟨hs1, hs2⟩ := hS; go_simp)⟩) hS4 ?_
      try simp only [Go.Act.put, List.setIfInBounds_toArray, List.set_cons_zero, List.set_cons_succ]
      refine wpL_take (i := 7) (v := .agg c4) (some 41) rfl rfl (by kernel_rfl) (by kernel_rfl) (by kernel_rfl) (by kernel_rfl) (by kernel_rfl) (by decide) (fun _ _ _ h => h) (Or.inl ⟨by rfl, fun w' hS => (by obtain ⟨hs1, hs2⟩ := hS; go_simp)⟩) hS4 ?_
      try simp only [Go.Act.put, List.setIfInBounds_toArray, List.set_cons_zero, List.set_cons_succ]
      refine wpL_takeY (i := 8) (v := v1) (some 42) rfl rfl (by kernel_rfl) (by kernel_rfl) (by kernel_rfl) (by decide) (fun _ _ _ h => h) (Or.inl ⟨by rfl, fun w' _ => by go_simp⟩) (fun _ => hS4) ?_
      try simp only [Go.Act.put, List.setIfInBounds_toArray, List.set_cons_zero, List.set_cons_succ]
      refine wpL_takeY (i := 9) (v := v2) (some 43) rfl rfl (by kernel_rfl) (by kernel_rfl) (by kernel_rfl) (by decide) (fun _ _ _ h => h) (Or.inl ⟨by rfl, fun w' _ => by go_simp⟩) (fun _ => hS4) ?_
      try simp only [Go.Act.put, List.setIfInBounds_toArray, List.set_cons_zero, List.set_cons_succ]
      refine wpL_ready (rs := [10]) (by kernel_rfl) (by simp) (AllL.cons (o := { dst := none, op := Op.store 29 (Operand.tmp 3) (Operand.tmp 41), type := 0, pos := _, after := #[{ on := 7, ground := Ground.data }, { on := 5, ground := Ground.chain }, { on := 0, ground := Ground.phase }, { on := 1, ground := Ground.phase }, { on := 2, ground := Ground.phase }, { on := 3, ground := Ground.phase }, { on := 4, ground := Ground.phase }, { on := 5, ground := Ground.phase }, { on := 6, ground := Ground.phase }, { on := 7, ground := Ground.phase }, { on := 8, ground := Ground.textOnly Departure.lateStores }, { on := 9, ground := Ground.textOnly Departure.lateStores }], guard := none }) rfl (fun K' hK => ?_) AllL.nil)
      rw [if_pos (by rfl)]
      refine wp_store29 (Operand.tmp 3) (Operand.tmp 41) rfl b1 c5 c4 29 rfl rfl hS4.1 hsz D4.out (fun w5 h5 t5 s5 => ?_)
      refine hK.out _ _ (fun h => by cases (show true = false from h)) ?_
      have E5 := hid (HSt.out w4 w5 c4 A4 B4 H4.out.1 H4.out.2 h5 t5)
      clear hK h5 t5 s5 hS4 hS0 H4 D4 HSt HLv y5 hB5 HB5 HS5 HR5
      try simp only [Go.Act.put, List.setIfInBounds_toArray, List.set_cons_zero, List.set_cons_succ]
      refine wpL_done (by kernel_rfl) ?_ _
      go_wp2_with fail
      go_roundw
      case rel => exact ⟨j + 1, by go_num, HL.out, E5.out⟩
      case measure => have := HL.out; simp [intOf]; omega
    · have e : j = L.length := by omega
      subst e
      have HEe : Hid (∀ W', W'.heap[b2]? = some (.cells c5 29 (0, 0)) → Touch [b2] wr W' → RpE (.returned (.tuple #[.agg c5, .slice a4 L.length q4, .int .i64 0])) w W' op (lvs L ps) L 0) := fun W' h2 t2 => by
        rw [List.take_length] at hs5
        exact HE.out wr W' c5 _ hB5 A5 B5 hs5 hr5 h2 t2
      have HB5 := hid hB5
      have HD5 := hid hs5.dg
      clear hs5 hr5 HP HC HE hB5
      go_wp2_with (first
        | (refine wpList_load29 rfl _ rfl b1 c5 29 (0, 0) rfl HB5.out.h1 HD5.out.size ?_)
        | (refine wpList_store29 rfl _ _ rfl b2 d c5 29 rfl rfl HB5.out.h2 HDs.out.1 HD5.out ?_; intro w3 h3 t3 s3; have B3 := hid (And.intro (HEe.out w3 h3 t3) h3); clear h3 t3 s3)
        | fail)
      exact bodyPost_ret (v := .tuple #[.agg c5, .slice a4 L.length q4, .int .i64 0]) (by rw [results_cell3 Try.results26 _ _ rfl B3.out.2 HD5.out.size]; rfl) rfl B3.out.1
set_option maxHeartbeats 8000000 in
set_option maxRecDepth 100000 in
theorem pass26_cut (h : Ds w c op ps A B) (hd : Dk ps) (n : Int) (m : Nat) (hn : inG n = true) (hl : ps.length ≤ 4398046511104) (hkl : m < (wOf ps n).length) : Calls Try.prog 26 #[.agg c, .int .i64 n, .int .i64 (m : Int)] w fun e w' => RpE e w w' op (lvs ((wOf ps n).take m) ps) ((wOf ps n).take m) 0 := by
  have z29 := zero29
  have d0 := dc_size (fun _ => false) (.slice none 0 0) (.slice none 0 0)
  have dz := dc_open (fun _ => false) (.slice none 0 0) (.slice none 0 0) (show 0 < 256 by omega)
  generalize dc (fun _ => false) (.slice none 0 0) (.slice none 0 0) = d at *
  obtain ⟨W1, hW1⟩ : ∃ W1, W1 = (w.alloc (.cells c 29)).alloc (.cells d 29) := ⟨_, rfl⟩
  have bx := Bx.start w c d
  rw [← hW1] at bx
  have HI : Hid (∀ W, Calls Try.prog 29 #[.int .i64 n] W fun e w' => e = .returned (.bool true) ∧ w' = W) := fun W => by rw [← hn]; exact is29 W n
  have HD := hid h.dg
  have HDs := hid (And.intro d0 dz)
  have HB := hid bx
  have HW := hid hW1
  have HWt := hid (waiting14 (h.keep0 bx.tc) n hl)
  obtain ⟨L, hL⟩ : ∃ L, L = (wOf ps n).take m := ⟨_, rfl⟩
  have hlen0 := wOf_len ps n
  have hlenL : L.length = m := by rw [hL, List.length_take]; omega
  rw [← hL]
  obtain ⟨N, hN⟩ : ∃ N, N = (wOf ps n).length := ⟨_, rfl⟩
  have HS : Hid (∀ W v, Bx w W w.heap.size (w.heap.size + 1) c d → Rd W v L → PlS w W w.heap.size (w.heap.size + 1) d op ps L 0 v) := fun W v b r => ⟨c, A, B, b, h.keep0 b.tc, r⟩
  have HC : Hid (∀ W c' A' B' j (hj : j < L.length), Ds W c' op (lvs (L.take j) ps) A' B' → Calls Try.prog 27 #[.agg c', .int .i64 L[j]] W fun e w' => LvE e W w' op (lv (lvs (L.take j) ps) L[j])) := fun W c' A' B' j hj hs => leave27_any hs (hd.sub (lvs_sub _ _)) L[j] (Nat.le_trans (lvs_sub _ _).length_le hl)
  have HE : Hid (∀ W W' c' v, Bx w W w.heap.size (w.heap.size + 1) c' d → ∀ A' B', Ds W c' op (lvs L ps) A' B' → Rd W v L → W'.heap[w.heap.size + 1]? = some (.cells c' 29 (0, 0)) → Touch [w.heap.size + 1] W W' → RpE (.returned (.tuple #[.agg c', v, .int .i64 0])) w W' op (lvs L ps) L 0) := fun W W' c' v b A' B' hs hr h2 t2 => ⟨c', A', B', v, rfl, hs.keepB t2 b.h2 HDs.out.2, hr.keepB t2 b.h2 HDs.out.2, (b.fill h2 t2).tc⟩
  obtain ⟨hn0, hn1⟩ := inG_yes hn
  have HRt : Hid (∀ W a q, W.ownsRow W1.heap.size 3 1 (.slice a (wOf ps n).length q) (wOf ps n).length (ints (wOf ps n)) → m ≤ q ∧ Rd W (.slice a m q) L) := fun W a q ow => by
    obtain ⟨a', q', e, h1, h2, h3, h4⟩ := Rd.of_own ow
    simp only [Value.slice.injEq, true_and] at e
    obtain ⟨rfl, rfl⟩ := e
    refine ⟨by omega, a, q, by rw [hlenL], by omega, h2, h3, ?_⟩
    rcases h4 with e | ⟨b, cur, e, z, rfl, hb, hc⟩
    · rw [e] at hkl; simp at hkl
    · refine Or.inr ⟨b, cur, e, z, rfl, hb, fun i hi => ?_⟩
      rw [hc i (by omega)]
      subst hL
      simp
  have zN : (N : Int) ≤ 4398046511104 := by omega
  have zm : (m : Int) < (N : Int) := by omega
  clear h hd d0 dz bx hW1 hn hL hl hlen0
  go_enter Try.func26, Try.ntmps26
  go_upto_region 1 with fail
  rw [← HW.out]
  clear HW
  generalize w.heap.size = b1 at *
  generalize b1 + 1 = b2 at *
  have WT : Hid (Calls Try.prog 14 #[.agg c, .int .i64 n] W1 fun e w' => ∃ a q, e = .returned (.slice a N q) ∧ (m : Int) ≤ (q : Int) ∧ PlS w w' b1 b2 d op ps L 0 (.slice a m q)) := by
    refine HWt.out.mono ?_
    rintro e w' ⟨v, he, ow, t'⟩
    obtain ⟨a, q, rfl⟩ := own_form ow
    obtain ⟨h1, h2⟩ := HRt.out w' a q ow
    exact ⟨a, q, by rw [hN]; exact he, by omega, HS.out w' _ (HB.out.keep t') h2⟩
  have HM := hid hlenL
  clear HS HWt HRt hN hkl hlenL
  go_wp2_with (first
    | (go_at_call 29; refine (HI.out _).mono ?_; rintro e w2 ⟨rfl, rfl⟩)
    | (refine wpList_load29 rfl _ rfl b1 c 29 (0, 0) rfl HB.out.h1 HD.out.size ?_)
    | (go_at_call 14; refine WT.out.mono ?_; rintro e w4 ⟨a4, q4, rfl, zq4, p4⟩; have P4 := hid p4; clear p4)
    | fail)
  clear WT HB HI HD
  go_loopw [10] (fun i wr => ∃ j : Nat, i = .int .i64 j ∧ j ≤ m ∧ Hid (PlS w wr b1 b2 d op ps L j (.slice a4 m q4))) (fun i _ => m - (intOf i).toNat)
  case atStart => exact ⟨0, rfl, Nat.zero_le _, P4.out⟩
  case round =>
    obtain ⟨j, rfl, hj, HP⟩ := hrel
    clear P4
    obtain ⟨c5, A5, B5, hB5, hs5, hr5⟩ := HP.out
    by_cases hlm : j < m
    · have zj : (j : Int) < (m : Int) := by omega
      have hlt : j < L.length := by rw [HM.out]; exact hlm
      obtain ⟨b5, e5, y5⟩ := hr5.cell hlt
      subst e5
      have hq0 := hs5.cells.2.2 0 (by omega)
      have hsz := hs5.dg.size
      have HB5 := hid hB5
      have HS5 := hid hs5
      have HR5 := hid hr5
      have HLv : Hid (∀ W, Touch [] wr W → Calls Try.prog 27 #[.agg c5, .int .i64 L[j]] W fun e w' => LvE e W w' op (lv (lvs (L.take j) ps) L[j])) := fun W T => HC.out W c5 A5 B5 j hlt (hs5.keep0 T)
      have HSt : Hid (∀ w4 w5 c4 A4 B4, Touch [] wr w4 → Ds w4 c4 op (lv (lvs (L.take j) ps) L[j]) A4 B4 → w5.heap[b1]? = some (.cells c4 29 (0, 0)) → Touch [b1] w4 w5 → PlS w w5 b1 b2 d op ps L (j + 1) (.slice (some ⟨b5, 0, none⟩) m q4)) := fun w4 w5 c4 A4 B4 t4 h4 h5 t5 => PlS.step (q0 := op 0) (q1 := true) hB5 hq0 hr5 hlt t4 h4 h5 t5
      have HL := hid hlt
      clear hs5 hr5 HP HC HE hq0
      generalize L[j] = y at *
      go_upto_region 11 with fail
      refine wp_region_L (S := (fun w' => w'.heap[b1]? = some (.cells c5 29 (0, 0)) ∧ w'.cell? ⟨b5, j, none⟩ = some (.int .i64 y))) (st := 10) (by kernel_rfl) ?_
      have hS0 : wr.drew.heap[b1]? = some (.cells c5 29 (0, 0)) ∧ wr.drew.cell? ⟨b5, j, none⟩ = some (.int .i64 y) := ⟨hB5.h1, y5⟩
      refine wpL_take (i := 0) (v := .agg c5) (some 35) rfl rfl (by kernel_rfl) (by kernel_rfl) (by kernel_rfl) (by kernel_rfl) (by kernel_rfl) (by decide) (fun _ _ _ h => h) (Or.inl ⟨by rfl, fun w' hS => exec_load29 _ rfl rfl hS.1 hsz⟩) hS0 ?_
      try simp only [Go.Act.put, List.setIfInBounds_toArray, List.set_cons_zero, List.set_cons_succ]
      refine wpL_take (i := 1) (v := .slice (some ⟨b5, 0, none⟩) m q4) (some 36) rfl rfl (by kernel_rfl) (by kernel_rfl) (by kernel_rfl) (by kernel_rfl) (by kernel_rfl) (by decide) (fun _ _ _ h => h) (Or.inl ⟨by rfl, fun w' hS => (by obtain ⟨hs1, hs2⟩ := hS; go_simp)⟩) hS0 ?_
      try simp only [Go.Act.put, List.setIfInBounds_toArray, List.set_cons_zero, List.set_cons_succ]
      refine wpL_take (i := 2) (v := .int .i64 (j : Int)) (some 37) rfl rfl (by kernel_rfl) (by kernel_rfl) (by kernel_rfl) (by kernel_rfl) (by kernel_rfl) (by decide) (fun _ _ _ h => h) (Or.inl ⟨by rfl, fun w' hS => (by obtain ⟨hs1, hs2⟩ := hS; go_simp)⟩) hS0 ?_
      try simp only [Go.Act.put, List.setIfInBounds_toArray, List.set_cons_zero, List.set_cons_succ]
      refine wpL_take (i := 3) (v := .pointer (some ⟨b5, j, none⟩)) (some 38) rfl rfl (by kernel_rfl) (by kernel_rfl) (by kernel_rfl) (by kernel_rfl) (by kernel_rfl) (by decide) (fun _ _ _ h => h) (Or.inl ⟨by rfl, fun w' hS => (by obtain ⟨hs1, hs2⟩ := hS; go_simp)⟩) hS0 ?_
      try simp only [Go.Act.put, List.setIfInBounds_toArray, List.set_cons_zero, List.set_cons_succ]
      refine wpL_take (i := 4) (v := .int .i64 y) (some 39) rfl rfl (by kernel_rfl) (by kernel_rfl) (by kernel_rfl) (by kernel_rfl) (by kernel_rfl) (by decide) (fun _ _ _ h => h) (Or.inl ⟨by rfl, fun w' hS => (by obtain ⟨hs1, hs2⟩ := hS; go_simp)⟩) hS0 ?_
      try simp only [Go.Act.put, List.setIfInBounds_toArray, List.set_cons_zero, List.set_cons_succ]
      refine wpL_ready (rs := [5]) (by kernel_rfl) (by simp) (AllL.cons (o := { dst := some 40, op := Op.call { callee := Callee.value (Operand.func 27), args := #[Operand.tmp 35, Operand.tmp 39], argTypes := #[29, 3] }, type := 67, pos := _, after := #[{ on := 0, ground := Ground.data }, { on := 4, ground := Ground.data }], guard := none }) rfl (fun K' hK => ?_) AllL.nil)
      rw [if_pos (by rfl)]
      go_simp
      refine (HLv.out _ ((Touch.refl _ _).drew)).mono ?_
      rintro e w4 ⟨c4, A4, B4, v1, v2, rfl, s4, t4⟩
      have t4' : Touch [] wr w4 := ((Touch.refl _ _).drew).trans' t4
      have hS4 : w4.heap[b1]? = some (.cells c5 29 (0, 0)) ∧ w4.cell? ⟨b5, j, none⟩ = some (.int .i64 y) := ⟨t4'.keep hB5.h1 (by simp), by rw [World.cell?_of_block (t4'.block b5 (HR5.out.lt (by have := HL.out; omega)) (by simp))]; exact y5⟩
      have H4 := hid (And.intro t4' s4)
      have D4 := hid s4.dg
      clear t4 t4' s4
      refine hK.out _ _ (fun _ => hS4) ?_
      clear hK
      try simp only [Go.Act.put, List.setIfInBounds_toArray, List.set_cons_zero, List.set_cons_succ]
      refine wpL_take (i := 6) (v := .tuple #[.agg c4, v1, v2]) (some 34) rfl rfl (by kernel_rfl) (by kernel_rfl) (by kernel_rfl) (by kernel_rfl) (by kernel_rfl) (by decide) (fun _ _ _ h => h) (Or.inl ⟨by rfl, fun w' hS => (by obtain ⟨hs1, hs2⟩ := hS; go_simp)⟩) hS4 ?_
      try simp only [Go.Act.put, List.setIfInBounds_toArray, List.set_cons_zero, List.set_cons_succ]
      refine wpL_take (i := 7) (v := .agg c4) (some 41) rfl rfl (by kernel_rfl) (by kernel_rfl) (by kernel_rfl) (by kernel_rfl) (by kernel_rfl) (by decide) (fun _ _ _ h => h) (Or.inl ⟨by rfl, fun w' hS => (by obtain ⟨hs1, hs2⟩ := hS; go_simp)⟩) hS4 ?_
      try simp only [Go.Act.put, List.setIfInBounds_toArray, List.set_cons_zero, List.set_cons_succ]
      refine wpL_takeY (i := 8) (v := v1) (some 42) rfl rfl (by kernel_rfl) (by kernel_rfl) (by kernel_rfl) (by decide) (fun _ _ _ h => h) (Or.inl ⟨by rfl, fun w' _ => by go_simp⟩) (fun _ => hS4) ?_
      try simp only [Go.Act.put, List.setIfInBounds_toArray, List.set_cons_zero, List.set_cons_succ]
      refine wpL_takeY (i := 9) (v := v2) (some 43) rfl rfl (by kernel_rfl) (by kernel_rfl) (by kernel_rfl) (by decide) (fun _ _ _ h => h) (Or.inl ⟨by rfl, fun w' _ => by go_simp⟩) (fun _ => hS4) ?_
      try simp only [Go.Act.put, List.setIfInBounds_toArray, List.set_cons_zero, List.set_cons_succ]
      refine wpL_ready (rs := [10]) (by kernel_rfl) (by simp) (AllL.cons (o := { dst := none, op := Op.store 29 (Operand.tmp 3) (Operand.tmp 41), type := 0, pos := _, after := #[{ on := 7, ground := Ground.data }, { on := 5, ground := Ground.chain }, { on := 0, ground := Ground.phase }, { on := 1, ground := Ground.phase }, { on := 2, ground := Ground.phase }, { on := 3, ground := Ground.phase }, { on := 4, ground := Ground.phase }, { on := 5, ground := Ground.phase }, { on := 6, ground := Ground.phase }, { on := 7, ground := Ground.phase }, { on := 8, ground := Ground.textOnly Departure.lateStores }, { on := 9, ground := Ground.textOnly Departure.lateStores }], guard := none }) rfl (fun K' hK => ?_) AllL.nil)
      rw [if_pos (by rfl)]
      refine wp_store29 (Operand.tmp 3) (Operand.tmp 41) rfl b1 c5 c4 29 rfl rfl hS4.1 hsz D4.out (fun w5 h5 t5 s5 => ?_)
      refine hK.out _ _ (fun h => by cases (show true = false from h)) ?_
      have E5 := hid (HSt.out w4 w5 c4 A4 B4 H4.out.1 H4.out.2 h5 t5)
      clear hK h5 t5 s5 hS4 hS0 H4 D4 HSt HLv y5 hB5 HB5 HS5 HR5
      try simp only [Go.Act.put, List.setIfInBounds_toArray, List.set_cons_zero, List.set_cons_succ]
      refine wpL_done (by kernel_rfl) ?_ _
      go_wp2_with fail
      go_roundw
      case rel => exact ⟨j + 1, by go_num, by omega, E5.out⟩
      case measure => simp [intOf]; omega
    · have e : j = m := by omega
      subst e
      have HEe : Hid (∀ W', W'.heap[b2]? = some (.cells c5 29 (0, 0)) → Touch [b2] wr W' → RpE (.returned (.tuple #[.agg c5, .slice a4 j q4, .int .i64 0])) w W' op (lvs L ps) L 0) := fun W' h2 t2 => by
        rw [List.take_of_length_le (by rw [HM.out]; exact Nat.le_refl _)] at hs5
        exact HE.out wr W' c5 _ hB5 A5 B5 hs5 hr5 h2 t2
      have HB5 := hid hB5
      have HD5 := hid hs5.dg
      clear hs5 hr5 HP HC HE hB5
      go_wp2_with (first
        | (refine wpList_load29 rfl _ rfl b1 c5 29 (0, 0) rfl HB5.out.h1 HD5.out.size ?_)
        | (refine wpList_store29 rfl _ _ rfl b2 d c5 29 rfl rfl HB5.out.h2 HDs.out.1 HD5.out ?_; intro w3 h3 t3 s3; have B3 := hid (And.intro (HEe.out w3 h3 t3) h3); clear h3 t3 s3)
        | fail)
      exact bodyPost_ret (v := .tuple #[.agg c5, .slice a4 j q4, .int .i64 0]) (by rw [results_cell3 Try.results26 _ _ rfl B3.out.2 HD5.out.size]; rfl) rfl B3.out.1
set_option maxHeartbeats 4000000 in
theorem pass26_no (h : Ds w c op ps A B) (n k : Int) (hn : inG n = false) : Calls Try.prog 26 #[.agg c, .int .i64 n, .int .i64 k] w fun e w' => RpE e w w' op ps [] 70 := by
  have z29 := zero29
  have d0 := dc_size (fun _ => false) (.slice none 0 0) (.slice none 0 0)
  generalize dc (fun _ => false) (.slice none 0 0) (.slice none 0 0) = d at *
  obtain ⟨W1, hW1⟩ : ∃ W1, W1 = (w.alloc (.cells c 29)).alloc (.cells d 29) := ⟨_, rfl⟩
  have bx := Bx.start w c d
  rw [← hW1] at bx
  have HI : Hid (∀ W, Calls Try.prog 29 #[.int .i64 n] W fun e w' => e = .returned (.bool false) ∧ w' = W) := fun W => by rw [← hn]; exact is29 W n
  have HD := hid h.dg
  have HE : Hid (∀ W', Bx w W' w.heap.size (w.heap.size + 1) c c → RpE (.returned (.tuple #[.agg c, .slice none 0 0, .int .i64 70])) w W' op ps [] 70) := fun W' b => ⟨c, A, B, _, rfl, h.keep0 b.tc, Rd.nil _, b.tc⟩
  have HDs := hid d0
  have HB := hid bx
  have HW := hid hW1
  clear h d0 hn bx hW1
  go_enter Try.func26, Try.ntmps26
  go_upto_region 1 with fail
  rw [← HW.out]
  clear HW
  generalize w.heap.size = b1 at *
  generalize b1 + 1 = b2 at *
  go_wp2_with (first
    | (go_at_call 29; refine (HI.out _).mono ?_; rintro e w2 ⟨rfl, rfl⟩)
    | (refine wpList_load29 rfl _ rfl b1 c 29 (0, 0) rfl HB.out.h1 HD.out.size ?_)
    | (refine wpList_store29 rfl _ _ rfl b2 d c 29 rfl rfl HB.out.h2 HDs.out HD.out ?_; intro w3 h3 t3 s3; have B3 := hid (HB.out.fill h3 t3); clear h3 t3 s3)
    | fail)
  exact bodyPost_ret (v := .tuple #[.agg c, .slice none 0 0, .int .i64 70]) (by rw [results_cell3 Try.results26 _ _ rfl B3.out.h2 HD.out.size]; rfl) rfl (HE.out _ B3.out)
set_option maxHeartbeats 4000000 in
theorem pass26_neg (h : Ds w c op ps A B) (n k : Int) (hn : inG n = true) (hk : k < 0) : Calls Try.prog 26 #[.agg c, .int .i64 n, .int .i64 k] w fun e w' => RpE e w w' op ps [] 1 := by
  have z29 := zero29
  have d0 := dc_size (fun _ => false) (.slice none 0 0) (.slice none 0 0)
  generalize dc (fun _ => false) (.slice none 0 0) (.slice none 0 0) = d at *
  obtain ⟨W1, hW1⟩ : ∃ W1, W1 = (w.alloc (.cells c 29)).alloc (.cells d 29) := ⟨_, rfl⟩
  have bx := Bx.start w c d
  rw [← hW1] at bx
  have HI : Hid (∀ W, Calls Try.prog 29 #[.int .i64 n] W fun e w' => e = .returned (.bool true) ∧ w' = W) := fun W => by rw [← hn]; exact is29 W n
  have HD := hid h.dg
  have HE : Hid (∀ W', Bx w W' w.heap.size (w.heap.size + 1) c c → RpE (.returned (.tuple #[.agg c, .slice none 0 0, .int .i64 1])) w W' op ps [] 1) := fun W' b => ⟨c, A, B, _, rfl, h.keep0 b.tc, Rd.nil _, b.tc⟩
  have HDs := hid d0
  have HB := hid bx
  have HW := hid hW1
  clear h d0 hn bx hW1
  go_enter Try.func26, Try.ntmps26
  go_upto_region 1 with fail
  rw [← HW.out]
  clear HW
  generalize w.heap.size = b1 at *
  generalize b1 + 1 = b2 at *
  go_wp2_with (first
    | (go_at_call 29; refine (HI.out _).mono ?_; rintro e w2 ⟨rfl, rfl⟩)
    | (refine wpList_load29 rfl _ rfl b1 c 29 (0, 0) rfl HB.out.h1 HD.out.size ?_)
    | (refine wpList_store29 rfl _ _ rfl b2 d c 29 rfl rfl HB.out.h2 HDs.out HD.out ?_; intro w3 h3 t3 s3; have B3 := hid (HB.out.fill h3 t3); clear h3 t3 s3)
    | fail)
  exact bodyPost_ret (v := .tuple #[.agg c, .slice none 0 0, .int .i64 1]) (by rw [results_cell3 Try.results26 _ _ rfl B3.out.h2 HD.out.size]; rfl) rfl (HE.out _ B3.out)
/-- Pass at a gate, of a number that may be. -/
theorem pass26_yes (h : Ds w c op ps A B) (hd : Dk ps) (n k : Int) (hn : inG n = true) (hk : ¬ k < 0) (hl : ps.length ≤ 4398046511104) : Calls Try.prog 26 #[.agg c, .int .i64 n, .int .i64 k] w fun e w' => RpE e w w' op (lvs ((wOf ps n).take k.toNat) ps) ((wOf ps n).take k.toNat) 0 := by
  by_cases hkl : k < (wOf ps n).length
  · have := pass26_cut h hd n k.toNat hn hl (by omega)
    rw [show ((k.toNat : Nat) : Int) = k by omega] at this
    exact this
  · exact pass26_all h hd n k hn hk hl hkl
end
end Go.Proofs.Ytmbjjkdocmcpdaa
