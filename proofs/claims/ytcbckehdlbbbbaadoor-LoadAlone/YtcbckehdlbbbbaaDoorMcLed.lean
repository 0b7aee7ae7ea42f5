/- The recipe of the item that a load is at ends: the program's end; the conditions are those that it states. -/
import Derived.Test.YtcbckehdlbbbbaaDoorMc04
import Derived.Test.YtcbckehdlbbbbaaDoorMc05
namespace Go.Proofs.YtcbckehdlbbbbaaDoor
open Go.RowKit Go.Maps Go.ChangeMaps
set_option linter.unusedVariables false
set_option linter.unusedSimpArgs false
theorem sl5 (W : World) (g off n c i : Nat) (hi : i ≤ n) : (Instr.slice 22 (.slice (some ⟨g, off, none⟩) n c) (some (.int .i64 (i : Int))) none none).run Tryd.prog W = .ok (.slice (some (if c = i then ⟨g, off, none⟩ else ⟨g, off + i * 5, none⟩)) (n - i) (c - i)) W := by
  rw [run_slice_l W 22 (some ⟨g, off, none⟩) n c (by kernel_rfl) .i64 (i : Int) (by omega) (by omega), show ((i : Int)).toNat = i by omega]
  go_simp
  split <;> simp [Addr.add]
/-- what is told of an end -/
def endW (S : Ld) (what : Int) (o : Oc) : Int := if o.2.1 = 2 then 6 else if S.left.tail = [] then 6 else what
section
variable {w : World} {b r : Nat} {S : Ld} {vr vl : Value}
/-- the item that it is at is left behind -/
theorem Lq.next (h : Lq w b r S vr vl) {l : List Ip} {vl' : Value} (hl : Lf w b r vl' l) :
    Lq (((((w.setCell ⟨b, 2, none⟩ vl').setCell ⟨b, 3, none⟩ (.int .i64 0)).setCell ⟨b, 4, none⟩ (.int .i64 0)).setCell ⟨b, 5, none⟩ (.int .i64 0)).setCell ⟨b, 6, none⟩ (.int .i64 0)) b r ⟨S.num, S.res, l, 0, 0, 0, 0, S.tm⟩ vr vl'
    ∧ Touch [b] w (((((w.setCell ⟨b, 2, none⟩ vl').setCell ⟨b, 3, none⟩ (.int .i64 0)).setCell ⟨b, 4, none⟩ (.int .i64 0)).setCell ⟨b, 5, none⟩ (.int .i64 0)).setCell ⟨b, 6, none⟩ (.int .i64 0)) := by
  have T : Touch [b] w (((((w.setCell ⟨b, 2, none⟩ vl').setCell ⟨b, 3, none⟩ (.int .i64 0)).setCell ⟨b, 4, none⟩ (.int .i64 0)).setCell ⟨b, 5, none⟩ (.int .i64 0)).setCell ⟨b, 6, none⟩ (.int .i64 0)) := (((((Touch.refl _ _).setCell (Or.inl (by simp)) _).setCell (Or.inl (by simp)) _).setCell (Or.inl (by simp)) _).setCell (Or.inl (by simp)) _).setCell (Or.inl (by simp)) _
  refine ⟨⟨?_, own_touch h.row T (fun q hq e' => ?_), h.vr, hl.keep T (fun k hk => Or.inr (by simp only [List.mem_singleton] at hk; omega)), h.rb⟩, T⟩
  · have := bset (i := 6) (bset (i := 5) (bset (i := 4) (bset (i := 3) (bset (i := 2) h.bl vl') (.int .i64 0)) (.int .i64 0)) (.int .i64 0)) (.int .i64 0)
    simpa [lc] using this
  · obtain ⟨c, e⟩ := h.vr
    rw [e] at hq
    simp only [Value.ownBlock, Option.some.injEq] at hq
    subst hq
    have := h.rb
    simp at e'
    omega
/-- how a load stands behind an end, told by its kind -/
theorem end_two {o : Oc} (e : o.2.1 = 2) (i : Nat) : (⟨S.num, allO (putO S.res i o) o, [], 0, 0, 0, 0, S.tm⟩ : Ld) = endS S o := by
  unfold endS
  rw [if_pos e]
  have : allO (putO S.res i o) o = allO S.res o := by
    have h1 : ∀ l : List Rz, allO l o = (l.map (·.1)).map (fun z => (z, o)) := fun l => by simp [allO]
    rw [h1, h1, putO_fst]
  rw [this]
theorem end_else {o : Oc} (e : ¬ o.2.1 = 2) : (⟨S.num, putO S.res S.at_ o, S.left.tail, 0, 0, 0, 0, S.tm⟩ : Ld) = endS S o := by
  unfold endS
  rw [if_neg e]
/-- the last stores of an end -/
def fin4 (w : World) (g : Nat) (x0 x1 : Int) : World := (((w.setCell ⟨g, 0, none⟩ (.int .i64 x0)).setCell ⟨g, 1, none⟩ (.int .i64 x1)).setCell ⟨g, 2, none⟩ (.int .i64 0)).setCell ⟨g, 3, none⟩ (.int .i64 0)
theorem touch_fin4 (w : World) (g : Nat) (x0 x1 : Int) : Touch [g] w (fin4 w g x0 x1) := by
  unfold fin4
  exact ((((Touch.refl _ _).setCell (Or.inl (by simp)) _).setCell (Or.inl (by simp)) _).setCell (Or.inl (by simp)) _).setCell (Or.inl (by simp)) _
theorem fin_on {V w5 : World} (tv : Touch [] w V) (T5 : Touch [b, r] V w5) (hq : Lq w5 b r S vr vl) (hb : b < w.heap.size) (x0 x1 : Int) : Lq (fin4 w5 (w.heap.size + 1) x0 x1) b r S vr vl ∧ Touch [b, r] w (fin4 w5 (w.heap.size + 1) x0 x1) := by
  have T := touch_fin4 w5 (w.heap.size + 1) x0 x1
  exact ⟨hq.keep T (fun k hk => by simp at hk; omega), ((tv.mono (fun _ e => by cases e)).trans' T5).trans T (fun k hk => Or.inr (by simp at hk; omega))⟩
theorem fin_over {V w5 : World} (tv : Touch [] w V) (T5 : Touch [b, r] V w5) (hq : Lq w5 b r S vr vl) (e : S.left = []) (hb : b < w.heap.size) (x0 x1 : Int) : Lq (fin4 ((w5.setCell ⟨w.heap.size + 1 + 1, 0, none⟩ (.int .i64 6)).setCell ⟨b, 2, none⟩ (.slice none 0 0)) (w.heap.size + 1) x0 x1) b r S vr (.slice none 0 0) ∧ Touch [b, r] w (fin4 ((w5.setCell ⟨w.heap.size + 1 + 1, 0, none⟩ (.int .i64 6)).setCell ⟨b, 2, none⟩ (.slice none 0 0)) (w.heap.size + 1) x0 x1) := by
  have T1 : Touch [w.heap.size + 1 + 1] w5 (w5.setCell ⟨w.heap.size + 1 + 1, 0, none⟩ (.int .i64 6)) := (Touch.refl _ _).setCell (Or.inl (by simp)) _
  have h1 := hq.keep T1 (fun k hk => by simp at hk; omega)
  obtain ⟨h2, T2⟩ := h1.nil
  have e2 : (⟨S.num, S.res, [], S.p, S.n, S.wt, S.on, S.tm⟩ : Ld) = S := by rw [← e]
  rw [e2] at h2
  have x1' : Touch [b, r] w (w5.setCell ⟨w.heap.size + 1 + 1, 0, none⟩ (.int .i64 6)) := ((tv.mono (fun _ e => by cases e)).trans' T5).trans T1 (fun k hk => Or.inr (by simp at hk; omega))
  have x2 := x1'.trans T2 (fun k hk => Or.inl (by simp at hk; simp [hk]))
  have T := touch_fin4 ((w5.setCell ⟨w.heap.size + 1 + 1, 0, none⟩ (.int .i64 6)).setCell ⟨b, 2, none⟩ (.slice none 0 0)) (w.heap.size + 1) x0 x1
  exact ⟨h2.keep T (fun k hk => by simp at hk; omega), x2.trans T (fun k hk => Or.inr (by simp at hk; omega))⟩
set_option maxHeartbeats 8000000 in
set_option maxRecDepth 100000 in
theorem end_ (h : Lq w b r S vr vl) (hi : Iv S) {q : Ip} {l : List Ip} (e : S.left = q :: l) (what : Int) (o : Oc) : Calls Tryd.prog 30 #[.pointer (some ⟨b, 0, none⟩), .int .i64 what, .agg #[.int .i64 o.1, .int .i64 o.2.1, .int .i64 o.2.2.1, .int .i64 o.2.2.2]] w fun e w' => e = .returned (.agg #[.int .i64 (endW S what o), .int .i64 q.1.run, .int .i64 0, .int .i64 0]) ∧ ∃ vl', Lq w' b r (endS S o) vr vl' ∧ Touch [b, r] w w' := by
  obtain ⟨cr, rfl⟩ := h.vr
  obtain ⟨al, cl, rfl, hcl⟩ := h.vform
  obtain ⟨g, off, rfl, hA⟩ := Its.item (i := 0) h.lf.its (by rw [e]; simp)
  have hq : S.left[0]'(by rw [e]; simp) = q := by simp [e]
  rw [hq] at hA
  simp only [Nat.zero_mul, Nat.add_zero] at hA
  have hat := hi.at_lt e
  have hll : S.left.length = l.length + 1 := by rw [e]; simp
  have hrb := h.rb
  have hbw : b < w.heap.size := block_lt h.bl
  obtain ⟨V, hV⟩ : ∃ V, V = ((w.alloc (.cells #[.int .i64 o.1, .int .i64 o.2.1, .int .i64 o.2.2.1, .int .i64 o.2.2.2] 51)).alloc (.cells #[.int .i64 0, .int .i64 0, .int .i64 0, .int .i64 0] 43)).alloc (.cells #[.int .i64 what, .int .i64 q.1.run, .int .i64 0, .int .i64 0] 43) := ⟨_, rfl⟩
  have tv : Touch [] w V := by rw [hV]; exact (((Touch.refl _ _).alloc _).alloc _).alloc _
  have hb0 : V.heap[w.heap.size]? = some (.cells #[.int .i64 o.1, .int .i64 o.2.1, .int .i64 o.2.2.1, .int .i64 o.2.2.2] 51 (0, 0)) := by rw [hV]; exact (((Touch.refl [] _).alloc _).alloc _).keep (heap_alloc_new w _) (by simp)
  have hb1 : V.heap[w.heap.size + 1]? = some (.cells #[.int .i64 0, .int .i64 0, .int .i64 0, .int .i64 0] 43 (0, 0)) := by
    rw [hV]
    have := heap_alloc_new (w.alloc (.cells #[.int .i64 o.1, .int .i64 o.2.1, .int .i64 o.2.2.1, .int .i64 o.2.2.2] 51)) (.cells #[.int .i64 0, .int .i64 0, .int .i64 0, .int .i64 0] 43)
    rw [World.size_alloc] at this
    exact ((Touch.refl [] _).alloc _).keep this (by simp)
  have hb2 : V.heap[w.heap.size + 1 + 1]? = some (.cells #[.int .i64 what, .int .i64 q.1.run, .int .i64 0, .int .i64 0] 43 (0, 0)) := by
    rw [hV]
    have := heap_alloc_new ((w.alloc (.cells #[.int .i64 o.1, .int .i64 o.2.1, .int .i64 o.2.2.1, .int .i64 o.2.2.2] 51)).alloc (.cells #[.int .i64 0, .int .i64 0, .int .i64 0, .int .i64 0] 43)) (.cells #[.int .i64 what, .int .i64 q.1.run, .int .i64 0, .int .i64 0] 43)
    rw [World.size_alloc, World.size_alloc] at this
    exact this
  have hvq := h.keep0 tv
  have HA : Hid (∀ w', Touch [] V w' → Calls Tryd.prog 17 #[.pointer (some ⟨b, 0, none⟩)] w' fun e w2 => e = .returned (.int .i64 (S.at_ : Nat)) ∧ Touch [] V w2) := hid (fun w' T => by
    refine (at_ok (hvq.keep0 T) hi).mono ?_
    rintro e w2 ⟨rfl, g⟩
    exact ⟨rfl, T.trans' g⟩)
  have HZ : Hid (∀ w', Touch [] V w' → (∃ x0 x1 x2 x3 : Int, w'.cell? ⟨r, S.at_ * 5 + 1, none⟩ = some (.int .i64 x0) ∧ w'.cell? ⟨r, S.at_ * 5 + 2, none⟩ = some (.int .i64 x1) ∧ w'.cell? ⟨r, S.at_ * 5 + 3, none⟩ = some (.int .i64 x2) ∧ w'.cell? ⟨r, S.at_ * 5 + 4, none⟩ = some (.int .i64 x3)) ∧ ∀ i, w'.frozen? ⟨r, i, none⟩ = false) := hid (fun w' T => by
    have hq' := hvq.keep0 T
    obtain ⟨z0, z1, z2, z3, z4⟩ := Lq.res hq' (List.getElem?_eq_getElem hat)
    exact ⟨⟨_, _, _, _, z1, z2, z3, z4⟩, own_frozen hq'.row⟩)
  have m1 : ∀ w', Touch [] V w' → w'.cell? ⟨b, 1, none⟩ = some (.slice (some ⟨r, 0, none⟩) S.res.length cr) := fun w' T => cell_at (hvq.keep0 T).bl rfl
  have p0 : ∀ w', Touch [] V w' → w'.cell? ⟨w.heap.size, 0, none⟩ = some (.int .i64 o.1) := fun w' T => cell_at (T.keep hb0 (by simp)) rfl
  have p1 : ∀ w', Touch [] V w' → w'.cell? ⟨w.heap.size, 1, none⟩ = some (.int .i64 o.2.1) := fun w' T => cell_at (T.keep hb0 (by simp)) rfl
  have p2 : ∀ w', Touch [] V w' → w'.cell? ⟨w.heap.size, 2, none⟩ = some (.int .i64 o.2.2.1) := fun w' T => cell_at (T.keep hb0 (by simp)) rfl
  have p3 : ∀ w', Touch [] V w' → w'.cell? ⟨w.heap.size, 3, none⟩ = some (.int .i64 o.2.2.2) := fun w' T => cell_at (T.keep hb0 (by simp)) rfl
  have hS0 : Touch [] V V.drew := (Touch.refl _ _).drew
  have HW3 : Hid (∀ Y1, Touch [] V Y1 → Lq (wrO Y1 r (S.at_ * 5 + 1) o) b r (S.with_ (putO S.res S.at_ o)) (.slice (some ⟨r, 0, none⟩) S.res.length cr) (.slice (some ⟨g, off, none⟩) S.left.length cl) ∧ Touch [r] V (wrO Y1 r (S.at_ * 5 + 1) o)) := hid (fun Y1 T => ⟨(hvq.keep0 T).put hat o, (T.mono (fun _ e => by cases e)).trans' (touch_wrO _ _ _ _)⟩)
  have y0 := hA.c0
  have c2 : w.cell? ⟨b, 2, none⟩ = some (.slice (some ⟨g, off, none⟩) S.left.length cl) := cell_at h.bl rfl
  have hzl : (0 : Int) < (S.left.length : Int) := by rw [hll]; omega
  have hgw : g < w.heap.size := cell_lt' y0
  have HAT : Hid (((S.at_ : Nat) : Int) < (S.res.length : Int)) := hid (by omega)
  have HSL := hid (fun W => sl5 W g off S.left.length cl 1 (by omega))
  have HB : Hid (∀ w', Touch [b, r] V w' → w'.heap[w.heap.size]? = some (.cells #[.int .i64 o.1, .int .i64 o.2.1, .int .i64 o.2.2.1, .int .i64 o.2.2.2] 51 (0, 0)) ∧ w'.heap[w.heap.size + 1]? = some (.cells #[.int .i64 0, .int .i64 0, .int .i64 0, .int .i64 0] 43 (0, 0)) ∧ w'.heap[w.heap.size + 1 + 1]? = some (.cells #[.int .i64 what, .int .i64 q.1.run, .int .i64 0, .int .i64 0] 43 (0, 0))) := hid (fun w' T => ⟨T.keep hb0 (by simp; omega), T.keep hb1 (by simp; omega), T.keep hb2 (by simp; omega)⟩)
  have HX : Hid (∀ W4, Lq W4 b r (S.with_ (putO S.res S.at_ o)) (.slice (some ⟨r, 0, none⟩) S.res.length cr) (.slice (some ⟨g, off, none⟩) S.left.length cl) → Lf W4 b r (.slice (some (if cl = 1 then ⟨g, off, none⟩ else ⟨g, off + 1 * 5, none⟩)) l.length (cl - 1)) l) := hid (fun W4 hq4 => by
    have x : Lf W4 b r (.slice (some ⟨g, off, none⟩) (l.length + 1) cl) (q :: l) := by
      have := hq4.lf
      show Lf W4 b r _ _
      rw [← e, ← hll]
      exact this
    exact x.tail)
  have HTV := hid tv
  have HBIG := hid hi.big
  have HRB := hid (And.intro hrb (And.intro hbw (And.intro e hll)))
  clear h hA hvq hb0 hb1 hb2 hi hcl hat tv hq e hll hrb
  go_enter Tryd.func30, Tryd.ntmps30
  go_upto_region 2 with fail
  rw [← hV]
  clear hV y0 c2
  obtain ⟨n, hn⟩ : ∃ n, n = S.res.length := ⟨_, rfl⟩
  obtain ⟨k, hk⟩ : ∃ k, k = S.at_ := ⟨_, rfl⟩
  have hkn : (k : Int) < (n : Int) := by rw [hk, hn]; exact HAT.out
  rw [← hk] at HA HZ
  rw [← hn] at m1
  have HKN := hid (And.intro hn hk)
  clear hn hk
  refine wp_region_L (S := fun w' => Touch [] V w') (st := 9) (by kernel_rfl) ?_
  refine wpL_take (i := 0) (v := (.pointer (some ⟨b, 0, none⟩))) (some 17) rfl rfl (by kernel_rfl) (by kernel_rfl) (by kernel_rfl) (by kernel_rfl) (by kernel_rfl) (by decide) (fun _ _ _ h => h) (Or.inl ⟨by rfl, fun w' hS => (by go_simp)⟩) hS0 ?_
  try simp only [Go.Act.put, List.setIfInBounds_toArray, List.set_cons_zero, List.set_cons_succ]
  refine wpL_take (i := 1) (v := (.pointer (some ⟨b, 0, none⟩))) (some 18) rfl rfl (by kernel_rfl) (by kernel_rfl) (by kernel_rfl) (by kernel_rfl) (by kernel_rfl) (by decide) (fun _ _ _ h => h) (Or.inl ⟨by rfl, fun w' hS => (by go_simp)⟩) hS0 ?_
  try simp only [Go.Act.put, List.setIfInBounds_toArray, List.set_cons_zero, List.set_cons_succ]
  refine wpL_take (i := 2) (v := (.pointer (some ⟨b, 1, none⟩))) (some 19) rfl rfl (by kernel_rfl) (by kernel_rfl) (by kernel_rfl) (by kernel_rfl) (by kernel_rfl) (by decide) (fun _ _ _ h => h) (Or.inl ⟨by rfl, fun w' hS => (by go_simp)⟩) hS0 ?_
  try simp only [Go.Act.put, List.setIfInBounds_toArray, List.set_cons_zero, List.set_cons_succ]
  refine wpL_take (i := 3) (v := (.slice (some ⟨r, 0, none⟩) n cr)) (some 20) rfl rfl (by kernel_rfl) (by kernel_rfl) (by kernel_rfl) (by kernel_rfl) (by kernel_rfl) (by decide) (fun _ _ _ h => h) (Or.inl ⟨by rfl, fun w' hS => (by have z0 := m1 _ hS; go_simp)⟩) hS0 ?_
  try simp only [Go.Act.put, List.setIfInBounds_toArray, List.set_cons_zero, List.set_cons_succ]
  refine wpL_take (i := 4) (v := (.pointer (some ⟨b, 0, none⟩))) (some 21) rfl rfl (by kernel_rfl) (by kernel_rfl) (by kernel_rfl) (by kernel_rfl) (by kernel_rfl) (by decide) (fun _ _ _ h => h) (Or.inl ⟨by rfl, fun w' hS => (by go_simp)⟩) hS0 ?_
  try simp only [Go.Act.put, List.setIfInBounds_toArray, List.set_cons_zero, List.set_cons_succ]
  refine wpL_take (i := 6) (v := (.agg #[.int .i64 o.1, .int .i64 o.2.1, .int .i64 o.2.2.1, .int .i64 o.2.2.2])) (some 23) rfl rfl (by kernel_rfl) (by kernel_rfl) (by kernel_rfl) (by kernel_rfl) (by kernel_rfl) (by decide) (fun _ _ _ h => h) (Or.inl ⟨by rfl, fun w' hS => (by have z0 := p0 _ hS; have z1 := p1 _ hS; have z2 := p2 _ hS; have z3 := p3 _ hS; go_simp)⟩) hS0 ?_
  try simp only [Go.Act.put, List.setIfInBounds_toArray, List.set_cons_zero, List.set_cons_succ]
  refine wpL_ready (rs := [5]) (by kernel_rfl) (by simp) (AllL.cons (o := { dst := some 22, op := Op.call { callee := Callee.value (Operand.func 17), args := #[Operand.tmp 21], argTypes := #[23] }, type := 3, pos := _, after := #[{ on := 4, ground := Ground.data }], guard := none }) rfl (fun K' hK => ?_) AllL.nil)
  rw [if_pos (by rfl)]
  go_simp
  refine (HA.out _ hS0).mono ?_
  rintro e' Y1 ⟨rfl, gY1⟩
  have hY1 : Touch [] V Y1 := gY1
  obtain ⟨⟨x0, x1, x2, x3, z1, z2, z3, z4⟩, zf⟩ := HZ.out _ hY1
  refine hK.out _ _ (fun _ => hY1) ?_
  clear hK
  try simp only [Go.Act.put, List.setIfInBounds_toArray, List.set_cons_zero, List.set_cons_succ]
  refine wpL_takeY (i := 7) (v := (.pointer (some ⟨r, k * 5, none⟩))) (some 24) rfl rfl (by kernel_rfl) (by kernel_rfl) (by kernel_rfl) (by decide) (fun _ _ _ h => h) (Or.inl ⟨by rfl, fun w' hS => (by go_simp)⟩) (fun _ => hY1) ?_
  try simp only [Go.Act.put, List.setIfInBounds_toArray, List.set_cons_zero, List.set_cons_succ]
  refine wpL_take (i := 8) (v := (.pointer (some ⟨r, k * 5 + 1, none⟩))) (some 25) rfl rfl (by kernel_rfl) (by kernel_rfl) (by kernel_rfl) (by kernel_rfl) (by kernel_rfl) (by decide) (fun _ _ _ h => h) (Or.inl ⟨by rfl, fun w' hS => (by go_simp)⟩) hY1 ?_
  try simp only [Go.Act.put, List.setIfInBounds_toArray, List.set_cons_zero, List.set_cons_succ]
  refine wpL_ready (rs := [9]) (by kernel_rfl) (by simp) (AllL.cons (o := { dst := none, op := Op.store 51 (Operand.tmp 25) (Operand.tmp 23), type := 0, pos := _, after := #[{ on := 8, ground := Ground.data }, { on := 6, ground := Ground.data }, { on := 5, ground := Ground.chain }, { on := 0, ground := Ground.phase }, { on := 1, ground := Ground.phase }, { on := 2, ground := Ground.phase }, { on := 3, ground := Ground.phase }, { on := 4, ground := Ground.phase }, { on := 5, ground := Ground.phase }, { on := 6, ground := Ground.phase }], guard := none }) rfl (fun K' hK => ?_) AllL.nil)
  rw [if_pos (by rfl)]
  go_simp
  refine hK.out _ _ (fun h => absurd h (by decide)) ?_
  clear hK
  try simp only [Go.Act.put, List.setIfInBounds_toArray, List.set_cons_zero, List.set_cons_succ]
  refine wpL_done (by kernel_rfl) ?_ _
  have HY := hid hY1
  clear hS0 hY1 z1 z2 z3 z4 zf m1 p0 p1 p2 p3
  have HQ3 : Hid (Lq (wrO Y1 r (k * 5 + 1) o) b r (S.with_ (putO S.res S.at_ o)) (.slice (some ⟨r, 0, none⟩) S.res.length cr) (.slice (some ⟨g, off, none⟩) S.left.length cl) ∧ Touch [r] V (wrO Y1 r (k * 5 + 1) o)) := hid (by rw [HKN.out.2]; exact HW3.out Y1 HY.out)
  unfold wrO at HQ3
  obtain ⟨W3, hW3⟩ : ∃ W3, W3 = (((Y1.setCell ⟨r, k * 5 + 1, none⟩ (.int .i64 o.1)).setCell ⟨r, k * 5 + 1 + 1, none⟩ (.int .i64 o.2.1)).setCell ⟨r, k * 5 + 1 + 2, none⟩ (.int .i64 o.2.2.1)).setCell ⟨r, k * 5 + 1 + 3, none⟩ (.int .i64 o.2.2.2) := ⟨_, rfl⟩
  rw [← hW3] at HQ3 ⊢
  clear hW3 HY HA HZ HW3 hkn
  obtain ⟨av, hav⟩ : ∃ av : Addr, av = if cl = 1 then ⟨g, off, none⟩ else ⟨g, off + 1 * 5, none⟩ := ⟨_, rfl⟩
  have HSL2 : ∀ W, (Instr.slice 22 (.slice (some ⟨g, off, none⟩) S.left.length cl) (some (.int .i64 1)) none none).run Tryd.prog W = .ok (.slice (some av) l.length (cl - 1)) W := fun W => by
    have := HSL.out W
    rw [HRB.out.2.2.2, Nat.add_sub_cancel, ← hav] at this
    rw [HRB.out.2.2.2]
    exact this
  have HLF := HX.out W3 HQ3.out.1
  rw [← hav] at HLF
  clear hav HSL HX
  have HQ4 := hid (Lq.next HQ3.out.1 HLF)
  have HT3 := hid HQ3.out.2
  have b2 := cell_at (j := 2) (v := .slice (some ⟨g, off, none⟩) S.left.length cl) HQ3.out.1.bl rfl
  have b3 := cell_at (j := 3) (v := .int .i64 S.p) HQ3.out.1.bl rfl
  have b4 := cell_at (j := 4) (v := .int .i64 S.n) HQ3.out.1.bl rfl
  have b5 := cell_at (j := 5) (v := .int .i64 S.wt) HQ3.out.1.bl rfl
  have b6 := cell_at (j := 6) (v := .int .i64 S.on) HQ3.out.1.bl rfl
  have bf := froz_at HQ3.out.1.bl
  have bl := block_lt HQ3.out.1.bl
  clear HLF HQ3
  go_upto_region 4 with fail
  obtain ⟨W4, hW4⟩ : ∃ W4, W4 = ((((W3.setCell ⟨b, 2, none⟩ (.slice (some av) l.length (cl - 1))).setCell ⟨b, 3, none⟩ (.int .i64 0)).setCell ⟨b, 4, none⟩ (.int .i64 0)).setCell ⟨b, 5, none⟩ (.int .i64 0)).setCell ⟨b, 6, none⟩ (.int .i64 0) := ⟨_, rfl⟩
  rw [← hW4] at HQ4 ⊢
  clear hW4 b2 b3 b4 b5 b6 bf bl HSL2
  have HT4 : Hid (Touch [b, r] V W4) := hid ((HT3.out.mono (fun k hk => by simp at hk; simp [hk])).trans HQ4.out.2 (fun k hk => Or.inl (by simp at hk; simp [hk])))
  obtain ⟨i0, i1, i2⟩ := HB.out W4 HT4.out
  have q1 := cell_at (j := 1) (v := .int .i64 o.2.1) i0 rfl
  have q0 := cell_at (j := 0) (v := .int .i64 o.1) i0 rfl
  have q2 := cell_at (j := 2) (v := .int .i64 o.2.2.1) i0 rfl
  have q3 := cell_at (j := 3) (v := .int .i64 o.2.2.2) i0 rfl
  have HFX : Hid (∀ w5, Touch [b, r] V w5 → (w5.cell? ⟨w.heap.size + 1 + 1, 0, none⟩ = some (.int .i64 what) ∧ w5.cell? ⟨w.heap.size + 1 + 1, 1, none⟩ = some (.int .i64 q.1.run) ∧ w5.cell? ⟨w.heap.size + 1 + 1, 2, none⟩ = some (.int .i64 0) ∧ w5.cell? ⟨w.heap.size + 1 + 1, 3, none⟩ = some (.int .i64 0)) ∧ (w5.cell? ⟨w.heap.size + 1, 0, none⟩ = some (.int .i64 0) ∧ w5.cell? ⟨w.heap.size + 1, 1, none⟩ = some (.int .i64 0) ∧ w5.cell? ⟨w.heap.size + 1, 2, none⟩ = some (.int .i64 0) ∧ w5.cell? ⟨w.heap.size + 1, 3, none⟩ = some (.int .i64 0)) ∧ (∀ i, w5.frozen? ⟨w.heap.size + 1 + 1, i, none⟩ = false) ∧ (∀ i, w5.frozen? ⟨w.heap.size + 1, i, none⟩ = false) ∧ w.heap.size + 1 + 1 < w5.heap.size) := hid (fun w5 T => by
    obtain ⟨j0, j1, j2⟩ := HB.out w5 T
    exact ⟨⟨cell_at j2 rfl, cell_at j2 rfl, cell_at j2 rfl, cell_at j2 rfl⟩, ⟨cell_at j1 rfl, cell_at j1 rfl, cell_at j1 rfl, cell_at j1 rfl⟩, froz_at j2, froz_at j1, block_lt j2⟩)
  have HBC : Hid (∀ w5 S5 vl5, Lq w5 b r S5 (.slice (some ⟨r, 0, none⟩) S.res.length cr) vl5 → w5.cell? ⟨b, 2, none⟩ = some vl5 ∧ (∀ i, w5.frozen? ⟨b, i, none⟩ = false) ∧ b < w5.heap.size) := hid (fun w5 S5 vl5 h => ⟨cell_at h.bl rfl, froz_at h.bl, block_lt h.bl⟩)
  clear i0 i1 i2 HB
  by_cases h2 : o.2.1 = 2
  · have h2' : (o.2.1 == 2) = true := by simpa using h2
    have HP := hid (panics_ HQ4.out.1 (by show (putO S.res S.at_ o).length ≤ 1024; rw [putO_len]; exact HBIG.out) o)
    have HE : Hid (∀ w5, Lq w5 b r ⟨S.num, allO (putO S.res S.at_ o) o, [], 0, 0, 0, 0, S.tm⟩ (.slice (some ⟨r, 0, none⟩) S.res.length cr) (.slice none 0 0) → Touch [b, r] V w5 → endW S what o = 6 ∧ Lq (fin4 ((w5.setCell ⟨w.heap.size + 1 + 1, 0, none⟩ (.int .i64 6)).setCell ⟨b, 2, none⟩ (.slice none 0 0)) (w.heap.size + 1) 6 q.1.run) b r (endS S o) (.slice (some ⟨r, 0, none⟩) S.res.length cr) (.slice none 0 0) ∧ Touch [b, r] w (fin4 ((w5.setCell ⟨w.heap.size + 1 + 1, 0, none⟩ (.int .i64 6)).setCell ⟨b, 2, none⟩ (.slice none 0 0)) (w.heap.size + 1) 6 q.1.run)) := hid (fun w5 hq5 T5 => by
      rw [end_two h2] at hq5
      exact ⟨by unfold endW; rw [if_pos h2], fin_over HTV.out T5 hq5 (by unfold endS; rw [if_pos h2]) HRB.out.2.1 _ _⟩)
    have HOV0 : Hid (∀ w5, Lq w5 b r ⟨S.num, allO (putO S.res S.at_ o) o, [], 0, 0, 0, 0, S.tm⟩ (.slice (some ⟨r, 0, none⟩) S.res.length cr) (.slice none 0 0) → Calls Tryd.prog 11 #[.pointer (some ⟨b, 0, none⟩)] w5 fun e w' => e = .returned (.bool true) ∧ w' = w5) := hid (fun w5 hq => over_yes hq rfl)
    unfold fin4 at HE
    clear h2
    go_wp2_with (first
      | (go_at_call 47; refine HP.out.mono ?_; rintro e w5 ⟨rfl, k5, t5⟩; have HQ5 := hid k5; have T5 := hid (HT4.out.trans' t5); obtain ⟨⟨d0, d1, d2, d3⟩, ⟨f0, f1, f2, f3⟩, df, ff, dl⟩ := HFX.out w5 T5.out; obtain ⟨g2, gf, gl⟩ := HBC.out _ _ _ k5; have HR5 := hid (HE.out w5 k5 T5.out); clear k5 t5 q0 q1 q2 q3)
      | (go_at_call 11; refine (HOV0.out _ HQ5.out).mono ?_; rintro e w6 ⟨rfl, rfl⟩)
      | fail)
    refine bodyPost_ret (v := .agg #[.int .i64 6, .int .i64 q.1.run, .int .i64 0, .int .i64 0]) (by simp [results, Tryd.results30, go_sem, f0, f1, f2, f3, d0, d1, d2, d3]) rfl ?_
    obtain ⟨x0, x1, x2⟩ := HR5.out
    exact ⟨by rw [x0], _, x1, x2⟩
  · have h2' : (o.2.1 == 2) = false := by simpa using h2
    have HSE := hid (end_else (S := S) h2)
    have HL : Hid (l = S.left.tail) := hid (by rw [HRB.out.2.2.1]; rfl)
    obtain ⟨d0, d1, d2, d3⟩ := (HFX.out W4 HT4.out).1
    obtain ⟨f0, f1, f2, f3⟩ := (HFX.out W4 HT4.out).2.1
    obtain ⟨df, ff, dl⟩ := (HFX.out W4 HT4.out).2.2
    obtain ⟨g2, gf, gl⟩ := HBC.out _ _ _ HQ4.out.1
    by_cases hl : l = []
    · have HOV := hid (over_yes HQ4.out.1 hl)
      have HR5 : Hid (endW S what o = 6 ∧ Lq (fin4 ((W4.setCell ⟨w.heap.size + 1 + 1, 0, none⟩ (.int .i64 6)).setCell ⟨b, 2, none⟩ (.slice none 0 0)) (w.heap.size + 1) 6 q.1.run) b r (endS S o) (.slice (some ⟨r, 0, none⟩) S.res.length cr) (.slice none 0 0) ∧ Touch [b, r] w (fin4 ((W4.setCell ⟨w.heap.size + 1 + 1, 0, none⟩ (.int .i64 6)).setCell ⟨b, 2, none⟩ (.slice none 0 0)) (w.heap.size + 1) 6 q.1.run)) := hid (by
        have hq5 := HQ4.out.1
        have e9 : (⟨S.num, (S.with_ (putO S.res S.at_ o)).res, l, 0, 0, 0, 0, S.tm⟩ : Ld) = endS S o := by
          rw [← HSE.out, ← HL.out]
          rfl
        have hq6 : Lq W4 b r (endS S o) (.slice (some ⟨r, 0, none⟩) S.res.length cr) (.slice (some av) l.length (cl - 1)) := by rw [← e9]; exact hq5
        exact ⟨by unfold endW; rw [if_neg h2, ← HL.out, if_pos hl], fin_over HTV.out HT4.out hq6 (by rw [← e9]; exact hl) HRB.out.2.1 _ _⟩)
      unfold fin4 at HR5
      clear h2 hl
      go_wp2_with (go_at_call 11; refine HOV.out.mono ?_; rintro e w6 ⟨rfl, rfl⟩)
      refine bodyPost_ret (v := .agg #[.int .i64 6, .int .i64 q.1.run, .int .i64 0, .int .i64 0]) (by simp [results, Tryd.results30, go_sem, f0, f1, f2, f3, d0, d1, d2, d3]) rfl ?_
      obtain ⟨x0, x1, x2⟩ := HR5.out
      exact ⟨by rw [x0], _, x1, x2⟩
    · obtain ⟨q', l', hl'⟩ : ∃ q' l', l = q' :: l' := by
        cases l with
        | nil => exact absurd rfl hl
        | cons q' l' => exact ⟨q', l', rfl⟩
      have HOV := hid (over_no HQ4.out.1 hl')
      have HR5 : Hid (endW S what o = what ∧ Lq (fin4 W4 (w.heap.size + 1) what q.1.run) b r (endS S o) (.slice (some ⟨r, 0, none⟩) S.res.length cr) (.slice (some av) l.length (cl - 1)) ∧ Touch [b, r] w (fin4 W4 (w.heap.size + 1) what q.1.run)) := hid (by
        have hq5 := HQ4.out.1
        have e9 : (⟨S.num, (S.with_ (putO S.res S.at_ o)).res, l, 0, 0, 0, 0, S.tm⟩ : Ld) = endS S o := by
          rw [← HSE.out, ← HL.out]
          rfl
        have hq6 : Lq W4 b r (endS S o) (.slice (some ⟨r, 0, none⟩) S.res.length cr) (.slice (some av) l.length (cl - 1)) := by rw [← e9]; exact hq5
        exact ⟨by unfold endW; rw [if_neg h2, ← HL.out, if_neg hl], fin_on HTV.out HT4.out hq6 HRB.out.2.1 _ _⟩)
      unfold fin4 at HR5
      clear h2 hl hl'
      go_wp2_with (go_at_call 11; refine HOV.out.mono ?_; rintro e w6 ⟨rfl, rfl⟩)
      refine bodyPost_ret (v := .agg #[.int .i64 what, .int .i64 q.1.run, .int .i64 0, .int .i64 0]) (by simp [results, Tryd.results30, go_sem, f0, f1, f2, f3, d0, d1, d2, d3]) rfl ?_
      obtain ⟨x0, x1, x2⟩ := HR5.out
      exact ⟨by rw [x0], _, x1, x2⟩
end
end Go.Proofs.YtcbckehdlbbbbaaDoor
