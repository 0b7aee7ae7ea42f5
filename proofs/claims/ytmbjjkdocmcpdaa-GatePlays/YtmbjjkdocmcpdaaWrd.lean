/- The document's gates read and written whole, as the walk meets it. -/
import Derived.Test.YtmbjjkdocmcpdaaNil
import Derived.Deep.CutRange
import Derived.Deep.CutBlock
import Derived.Deep.RegionLaw
import Derived.Laws.ResultCell
import Derived.Laws.AppendOwnNone
namespace Go.Proofs.Ytmbjjkdocmcpdaa
open Go.RowKit Go.Maps Go.ChangeMaps
set_option linter.unusedVariables false
/-- All cells of the document's gates are one cell each. -/
structure Dg (c : Array Value) : Prop where
  size : c.size = 258
  one : c.all (·.oneCell') = true
theorem size29 {c : Array Value} (h : c.size = 258) : (Try.prog.info? 29).map (·.size) = some c.size := by rw [(zero_of_info info29).2, h]
theorem run_load29 (w : World) {g : Nat} {c : Array Value} {t : TypeId} {fr : Nat × Nat} (hb : w.heap[g]? = some (.cells c t fr)) (hc : c.size = 258) : (loadVar 29 ⟨g, 0, none⟩).run Try.prog w = .ok (.agg c) w :=
  run_loadVar_row w g t 29 c fr _ hb Try.underlying29 rfl (size29 hc)
theorem at_load29 (w : World) {g : Nat} {c : Array Value} {t : TypeId} {fr : Nat × Nat} (hb : w.heap[g]? = some (.cells c t fr)) (hc : c.size = 258) : (Instr.loadAt 29 (.pointer (some ⟨g, 0, none⟩))).run Try.prog w = .ok (.agg c) w := by
  simp only [Instr.loadAt, Instr.sureAddr, Sem.run_bind, Sem.run_pure, Result.andThen]
  exact run_load29 w hb hc
theorem at_store29 (w : World) {g : Nat} {c c' : Array Value} {t : TypeId} (hb : w.heap[g]? = some (.cells c t (0, 0))) (hc : c.size = 258) (hd : Dg c') : (Instr.storeAt 29 (.pointer (some ⟨g, 0, none⟩)) (.agg c')).run Try.prog w = .ok () (w.setRow g c') := by
  simp only [Instr.storeAt, Instr.sureAddr, Sem.run_bind, Sem.run_pure, Result.andThen]
  exact run_storeVar_row w g t 29 c c' hb (size29 hd.size) (by rw [hc, hd.size]) hd.one
theorem touch_setRow (w : World) (g : Nat) (c : Array Value) : Touch [g] w (w.setRow g c) := by
  refine ⟨rfl, rfl, rfl, by simp [World.setRow], fun k hk hn => ?_⟩
  simp only [World.setRow, Array.getElem?_modify]
  rw [if_neg (fun e => hn (by simp [e]))]
section
variable {w : World} {ops : Array Oper} {rest : List Oper} {o : Oper} {a : Act} {Q : Exit → Act → World → Prop}
theorem wpList_load29 (hg : o.guard = none) (p : Operand) (hop : o.op = Op.load 29 p) (g : Nat) (c : Array Value) (t : TypeId) (fr : Nat × Nat) (hp : a.eval p = .pointer (some ⟨g, 0, none⟩)) (hb : w.heap[g]? = some (.cells c t fr)) (hc : c.size = 258)
    (hK : wpList Try.prog ops Q rest (a.put o.dst (.agg c)) w) : wpList Try.prog ops Q (o :: rest) a w := by
  refine wpList_plain hg fun K' hK' => ?_
  have hrun := at_load29 w hb hc
  unfold Oper.wp
  simp only [execOp, hop, hp, hrun, Sem.run_bind, Sem.run_pure, Result.andThen_ok]
  exact hK' _ _ hK
theorem wpList_store29 (hg : o.guard = none) (p v : Operand) (hop : o.op = Op.store 29 p v) (g : Nat) (c c' : Array Value) (t : TypeId) (hp : a.eval p = .pointer (some ⟨g, 0, none⟩)) (hv : a.eval v = .agg c') (hb : w.heap[g]? = some (.cells c t (0, 0))) (hc : c.size = 258) (hd : Dg c')
    (hK : ∀ w', w'.heap[g]? = some (.cells c' t (0, 0)) → Touch [g] w w' → w'.heap.size = w.heap.size → wpList Try.prog ops Q rest (a.put o.dst undef) w') : wpList Try.prog ops Q (o :: rest) a w := by
  refine wpList_plain hg fun K' hK' => ?_
  have hrun := at_store29 w hb hc hd
  unfold Oper.wp
  simp only [execOp, hop, hp, hv, hrun, Sem.run_bind, Sem.run_pure, Result.andThen_ok]
  exact hK' _ _ (hK _ (setRow_heap w g c c' t (0, 0) hb) (touch_setRow w g c') (by simp [World.setRow]))
end
theorem results_cell3 {fn : Func} {p u v : Tmp} (h : fn.results = #[.cell p 29, .tmp u, .tmp v]) (tmps : Array Value) (w : World) {g : Nat} {c : Array Value} {t : TypeId} {fr : Nat × Nat} (hp : tmps.getD p undef = .pointer (some ⟨g, 0, none⟩)) (hb : w.heap[g]? = some (.cells c t fr)) (hc : c.size = 258) :
    (results fn tmps).run Try.prog w = .ok (.tuple #[.agg c, tmps.getD u undef, tmps.getD v undef]) w := by
  have hl := run_load29 w hb hc
  have hp' : tmps[p]?.getD undef = .pointer (some ⟨g, 0, none⟩) := by simpa using hp
  simp only [results, h]
  simp [hp', asAddr, hl]
theorem results_cell2 {fn : Func} {p u : Tmp} (h : fn.results = #[.cell p 29, .tmp u]) (tmps : Array Value) (w : World) {g : Nat} {c : Array Value} {t : TypeId} {fr : Nat × Nat} (hp : tmps.getD p undef = .pointer (some ⟨g, 0, none⟩)) (hb : w.heap[g]? = some (.cells c t fr)) (hc : c.size = 258) :
    (results fn tmps).run Try.prog w = .ok (.tuple #[.agg c, tmps.getD u undef]) w := by
  have hl := run_load29 w hb hc
  have hp' : tmps[p]?.getD undef = .pointer (some ⟨g, 0, none⟩) := by simpa using hp
  simp only [results, h]
  simp [hp', asAddr, hl]
theorem is29 (w : World) (n : Int) : Calls Try.prog 29 #[.int .i64 n] w fun e w' => e = .returned (.bool (inG n)) ∧ w' = w := by
  unfold inG
  by_cases h : 0 ≤ n
  · rw [decide_eq_true h, Bool.true_and]
    go_enter Try.func29, Try.ntmps29
    go_wp2
    go_ret
    exact ⟨rfl, rfl⟩
  · rw [decide_eq_false h, Bool.false_and]
    go_enter Try.func29, Try.ntmps29
    go_wp2
    go_ret
    exact ⟨rfl, rfl⟩
theorem all_of {c : Array Value} (h : ∀ j, j < c.size → ∃ v, c[j]? = some v ∧ v.oneCell' = true) : c.all (·.oneCell') = true := by
  rw [Array.all_eq_true]
  intro j hj
  obtain ⟨v, hv, h1⟩ := h j hj
  rw [Array.getElem?_eq_getElem hj] at hv
  cases hv
  exact h1
theorem dc_dg (op : Nat → Bool) {a b : Value} (ha : a.oneCell' = true) (hb : b.oneCell' = true) : Dg (dc op a b) := by
  refine ⟨dc_size op a b, all_of (fun j hj => ?_)⟩
  rw [dc_size] at hj
  refine ⟨_, dc_get op a b hj, ?_⟩
  unfold dcf
  split
  · exact ha
  · split
    · exact hb
    · rfl
/-- A slice that tells whole numbers. -/
def Rd (w : World) (v : Value) (xs : List Int) : Prop := ∃ a c, v = .slice a xs.length c ∧ xs.length ≤ c ∧ c ≤ maxLen ∧ (a = none → c = 0) ∧ (xs = [] ∨ ∃ (b : Nat) (cur : Array Value) (e : Nat) (z : Nat × Nat), a = some ⟨b, 0, none⟩ ∧ w.heap[b]? = some (.cells cur 3 z) ∧ ∀ i (h : i < xs.length), cur[i]? = some (.int .i64 xs[i]))
section
variable {w w' : World} {v : Value} {xs : List Int} {B : Nat}
theorem Rd.of_own (h : w.ownsRow B 3 1 v xs.length (ints xs)) : Rd w v xs := by
  rcases h.2 with ⟨e1, e2⟩ | ⟨g, cap, cur, rfl, hg, hc, hn, hm, hs, ht⟩
  · have : xs = [] := List.length_eq_zero_iff.1 e2
    subst this
    subst e1
    exact ⟨none, 0, rfl, Nat.le_refl _, Nat.zero_le _, fun _ => rfl, Or.inl rfl⟩
  · refine ⟨_, cap, rfl, hn, hm, fun e => (by cases e), Or.inr ⟨g, cur, 3, _, rfl, hc, fun i hi => ?_⟩⟩
    have := own_cell h (p := i) (v := .int .i64 xs[i]) (by simp [ints, hi])
    simpa [World.cell?, hc] using this
theorem Rd.keep {F : List Nat} (h : Rd w v xs) (T : Touch F w w') (hF : ∀ b, v.ownBlock = some b → ¬ b ∈ F) : Rd w' v xs := by
  obtain ⟨a, c, rfl, h1, h2, h0, h3⟩ := h
  refine ⟨a, c, rfl, h1, h2, h0, ?_⟩
  rcases h3 with e | ⟨b, cur, e, z, rfl, hb, hc⟩
  · exact Or.inl e
  · exact Or.inr ⟨b, cur, e, z, rfl, T.keep hb (hF b rfl), hc⟩
theorem Rd.keep0 (h : Rd w v xs) (T : Touch [] w w') : Rd w' v xs := h.keep T (fun _ _ e => by cases e)
theorem Rd.nil (w : World) : Rd w (.slice none 0 0) [] := ⟨none, 0, rfl, Nat.le_refl _, Nat.zero_le _, fun _ => rfl, Or.inl rfl⟩
theorem Rd.form (h : Rd w v xs) : ∃ a c, v = .slice a xs.length c ∧ xs.length ≤ c ∧ c ≤ maxLen := by
  obtain ⟨a, c, e, h1, h2, _⟩ := h
  exact ⟨a, c, e, h1, h2⟩
theorem Rd.one (h : Rd w v xs) : v.oneCell' = true := by
  obtain ⟨a, c, rfl, _⟩ := h
  rfl
theorem Rd.cell {a : Option Addr} {n c i : Nat} (h : Rd w (.slice a n c) xs) (hi : i < xs.length) : ∃ b, a = some ⟨b, 0, none⟩ ∧ w.cell? ⟨b, i, none⟩ = some (.int .i64 xs[i]) := by
  obtain ⟨a', c', e, _, _, _, h3⟩ := h
  simp only [Value.slice.injEq] at e
  obtain ⟨rfl, _, _⟩ := e
  rcases h3 with e | ⟨b, cur, e, z, rfl, hb, hc⟩
  · subst e; simp at hi
  · exact ⟨b, rfl, by simp [World.cell?, hb, hc i hi]⟩
theorem Rd.lt {b : Nat} {n c : Nat} (h : Rd w (.slice (some ⟨b, 0, none⟩) n c) xs) (hi : 0 < xs.length) : b < w.heap.size := by
  obtain ⟨a', c', e, _, _, _, h3⟩ := h
  simp only [Value.slice.injEq] at e
  obtain ⟨rfl, _, _⟩ := e
  rcases h3 with e | ⟨b', cur, e, z, he, hb, hc⟩
  · subst e; simp at hi
  · cases he; exact block_lt hb
end
/-- A slice that tells whole numbers, laid behind a row that a call owns. -/
theorem wpList_append_rd {w : World} {ops : Array Oper} {rest : List Oper} {o : Oper} {a : Act} {Q : Exit → Act → World → Prop} (hgd : o.guard = none) (s x : Operand) (ho : o.op = .call { callee := .builtin .append, args := #[s, x], argTypes := #[27, 27] })
    (base b0 n c0 : Nat) (xs : List Value) (hs : a.eval s = .slice (some ⟨b0, 0, none⟩) n c0) (hown : w.ownsRow base 3 1 (.slice (some ⟨b0, 0, none⟩) n c0) n xs) (sx : Value) (ys : List Int) (hx : a.eval x = sx) (hr : Rd w sx ys) (hb : n + ys.length ≤ 8796093022208) (hbase : base ≤ w.heap.size)
    (h : ∀ b cap w', w'.ownsRow base 3 1 (.slice (some ⟨b, 0, none⟩) (n + ys.length) cap) (n + ys.length) (xs ++ ints ys) → w.grownBy w' (some b0) → wpList Try.prog ops Q rest (a.put o.dst (.slice (some ⟨b, 0, none⟩) (n + ys.length) cap)) w') : wpList Try.prog ops Q (o :: rest) a w := by
  obtain ⟨i3, hi3, hz0, hz1, hz2⟩ := info_parts info3
  obtain ⟨ad, c, rfl, h1, h2, h0, h3⟩ := hr
  cases ad with
  | none =>
    have e0 := h0 rfl
    subst e0
    have e1 : ys = [] := List.length_eq_zero_iff.1 (by omega)
    subst e1
    refine wpList_append_own_none hgd s x 27 ho base 3 i3 1 Try.underlying27 hi3 _ n xs hs hown hx ?_
    have := h b0 c0 w (by simpa [ints] using hown) ⟨rfl, rfl, rfl, Nat.le_refl _, fun _ _ _ => rfl⟩
    simpa using this
  | some ad =>
    refine wpList_append_own w hgd s x 27 ho base 3 i3 (.int .i64 0) 1 8 Try.underlying27 hi3 hz0 hz1 hz2 rfl (by decide) _ n xs hs hown ad ys.length c (ints ys) hx (by simp [ints]) (fun j u hu => ?_) (fun u hu => ?_) (by unfold maxLen; omega) (by omega) hbase (fun v' w' r gr nn => ?_)
    · rcases h3 with e | ⟨b, cur, e, z, he, hb, hc⟩
      · subst e; simp [ints] at hu
      · cases he
        have hj : j < ys.length := by
          have := (List.getElem?_eq_some_iff.1 hu).1
          simpa [ints] using this
        have e2 : (⟨b, 0, none⟩ : Addr).add j = ⟨b, j, none⟩ := by unfold Addr.add; split <;> simp_all
        rw [e2]
        simp [ints, hj] at hu
        rw [← hu]
        simp [World.cell?, hb, hc j hj]
    · simp only [ints, List.mem_map] at hu
      obtain ⟨y, _, rfl⟩ := hu
      rfl
    · rcases r.2 with ⟨e, _⟩ | ⟨g, cap, cur, rfl, _⟩
      · have := (nn.1 e).1
        cases this
      · exact h g cap w' r gr
/-- The document's gates. -/
structure Ds (w : World) (c : Array Value) (op : Nat → Bool) (ps : List (Int × Int)) (A B : Value) : Prop where
  eq : c = dc op A B
  who : Rd w A (ps.map (·.1))
  at_ : Rd w B (ps.map (·.2))
section
variable {w w' : World} {c : Array Value} {op : Nat → Bool} {ps : List (Int × Int)} {A B : Value}
theorem Ds.keep0 (h : Ds w c op ps A B) (T : Touch [] w w') : Ds w' c op ps A B := ⟨h.eq, h.who.keep0 T, h.at_.keep0 T⟩
theorem Ds.dg (h : Ds w c op ps A B) : Dg c := by rw [h.eq]; exact dc_dg op h.who.one h.at_.one
theorem Ds.cells (h : Ds w c op ps A B) : c[256]? = some A ∧ c[257]? = some B ∧ ∀ i, i < 256 → c[i]? = some (.bool (op i)) := by
  rw [h.eq]
  exact ⟨dc_who op A B, dc_at op A B, fun i hi => dc_open op A B hi⟩
end
/-- The place of a number in a list; -1: it is not there. -/
def pos (xs : List Int) (x : Int) : Option Nat := xs.findIdx? (fun y => y == x)
def posI (xs : List Int) (x : Int) : Int := match pos xs x with | some i => (i : Int) | none => -1
theorem pos_some {xs : List Int} {x : Int} {i : Nat} (h : pos xs x = some i) : ∃ hi : i < xs.length, xs[i] = x ∧ ∀ j (hj : j < i), xs[j] ≠ x := by
  unfold pos at h
  rw [List.findIdx?_eq_some_iff_getElem] at h
  obtain ⟨hi, h1, h2⟩ := h
  exact ⟨hi, by simpa using h1, fun j hj => by simpa using h2 j hj⟩
theorem pos_none {xs : List Int} {x : Int} (h : pos xs x = none) : ¬ x ∈ xs := by
  unfold pos at h
  rw [List.findIdx?_eq_none_iff] at h
  intro e
  have := h x e
  simp at this
theorem pos_of {xs : List Int} {x : Int} {i : Nat} (hi : i < xs.length) (h1 : xs[i] = x) (h2 : ∀ j (hj : j < i), xs[j] ≠ x) : posI xs x = (i : Int) := by
  have : pos xs x = some i := by
    unfold pos
    rw [List.findIdx?_eq_some_iff_getElem]
    exact ⟨hi, by simpa using h1, fun j hj => by simpa using h2 j hj⟩
  unfold posI
  rw [this]
theorem pos_no {xs : List Int} {x : Int} (h : ∀ j (hj : j < xs.length), xs[j] ≠ x) : posI xs x = -1 := by
  have : pos xs x = none := by
    unfold pos
    rw [List.findIdx?_eq_none_iff]
    intro y hy
    obtain ⟨j, hj, rfl⟩ := List.getElem_of_mem hy
    simpa using h j hj
  unfold posI
  rw [this]
section
variable {w : World} {c : Array Value} {op : Nat → Bool} {ps : List (Int × Int)} {A B : Value}
set_option maxHeartbeats 4000000 in
set_option maxRecDepth 100000 in
theorem where28 (h : Ds w c op ps A B) (x : Int) (hl : ps.length ≤ 4398046511104) : Calls Try.prog 28 #[.agg c, .int .i64 x] w fun e w' => e = .returned (.int .i64 (posI (ps.map (·.1)) x)) ∧ Touch [] w w' := by
  obtain ⟨W1, hW1⟩ : ∃ W1, W1 = w.alloc (.cells c 29) := ⟨_, rfl⟩
  have t1 : Touch [] w W1 := by rw [hW1]; exact (Touch.refl _ _).alloc _
  have b1 : W1.heap[w.heap.size]? = some (.cells c 29 (0, 0)) := by rw [hW1]; exact heap_alloc_new w _
  have hA := h.who.keep0 t1
  have c1 := cell_at b1 h.cells.1
  have hlen : (ps.map (·.1)).length ≤ 4398046511104 := by simpa using hl
  generalize ps.map (·.1) = xs at *
  obtain ⟨a, cap, rfl, _, _⟩ := hA.form
  have HA := hid hA
  have HT := hid t1
  have HW := hid hW1
  clear h hA t1 b1 hl hW1
  have zl : (xs.length : Int) ≤ 4398046511104 := by omega
  go_enter Try.func28, Try.ntmps28
  go_upto_region 1 with fail
  rw [← HW.out]
  clear HW
  generalize w.heap.size = b at *
  go_wp2
  go_loop [5] (fun s => ∃ k : Nat, s = .int .i64 (k : Int) ∧ k ≤ xs.length ∧ Hid (∀ j (hj : j < xs.length), j < k → xs[j] ≠ x)) (fun s => xs.length - (intOf s).toNat)
  case atStart => exact ⟨0, rfl, Nat.zero_le _, fun j hj h => absurd h (Nat.not_lt_zero _)⟩
  case round =>
    obtain ⟨k, rfl, hk, HR⟩ := hrel
    by_cases hlt : k < xs.length
    · have zk : (k : Int) < (xs.length : Int) := by omega
      obtain ⟨b2, rfl, c2⟩ := HA.out.cell hlt
      by_cases e : xs[k] = x
      · have HP := hid (pos_of hlt e (fun j hj => HR.out j (by omega) hj))
        have ze : (xs[k] == x) = true := by simp [e]
        clear e HR HA
        generalize xs[k] = y at *
        go_wp2
        go_ret
        exact ⟨by rw [HP.out]; rfl, HT.out⟩
      · have ze : (xs[k] == x) = false := by simp [e]
        have HN : Hid (∀ j (hj : j < xs.length), j < k + 1 → xs[j] ≠ x) := fun j hj h => by
          by_cases e2 : j = k
          · subst e2; exact e
          · exact HR.out j hj (by omega)
        clear e HR HA
        generalize xs[k] = y at *
        go_wp2
        go_round
        case rel => exact ⟨k + 1, by go_num, by omega, HN.out⟩
        case measure => simp [intOf]; omega
    · have HP : Hid (posI xs x = -1) := pos_no (fun j hj => HR.out j hj (by omega))
      clear HR HA
      go_wp2
      go_ret
      exact ⟨by rw [HP.out]; rfl, HT.out⟩
end
end Go.Proofs.Ytmbjjkdocmcpdaa
