/- The contract of the document's New; no conditions but those that it states. -/
import Derived.Test.YtbadlkjffelkhaaXdy
namespace Go.Proofs.Ytbadlkjffelkhaa.Sk
open Go.RowKit Go.Maps Go.ChangeMaps
set_option maxRecDepth 100000
set_option linter.unusedVariables false
set_option linter.unusedSimpArgs false
/-- A slice that can be read, laid behind a row that a call owns: at the operation. -/
theorem wp_append_rs {w : World} {o : Oper} {a : Act} {K : Act → World → Prop} {Q : Exit → Act → World → Prop} (s x : Operand) (st et : TypeId) (ho : o.op = .call { callee := .builtin .append, args := #[s, x], argTypes := #[st, st] })
    (z : Value) (k bytes : Nat) (hinfo : (Try.prog.info? et).map (fun i => (i.zero, i.size, i.bytes)) = some (some z, k, bytes)) (ht : Try.prog.underlying st = some (.slice et)) (hzs : z.cells.size = k) (hk : 0 < k)
    (base : Nat) (v : Value) (n : Nat) (xs : List Value) (hs : a.eval s = v) (hown : w.ownsRow base et k v n xs)
    (u : Value) (m : Nat) (vs : List Value) (hx : a.eval x = u) (hu : Rs et k w u m vs) (h1 : ∀ y ∈ vs, y.oneCell' = true) (h63 : n + m ≤ maxLen) (hbytes : (n + m) * bytes ≤ 140737488355328) (hbase : base ≤ w.heap.size)
    (h : ∀ v' w', w'.ownsRow base et k v' (n + m) (xs ++ vs) → w.grownBy w' v.ownBlock → (v'.ownBlock = v.ownBlock ∨ v'.ownBlock = some w.heap.size) → K (a.put o.dst v') w') : o.wp Try.prog a w K Q := by
  obtain ⟨i3, hf, hz0, hz1, hz2⟩ := info_parts hinfo
  obtain ⟨hl, ad, c, rfl, hc, hn0, hr⟩ := hu
  cases ad with
  | none =>
    have e0 := hn0 rfl
    subst e0
    have em : m = 0 := by omega
    subst em
    have ev : vs = [] := List.length_eq_zero_iff.1 (by omega)
    subst ev
    have hrun := run_append_owned_none (P := Try.prog) (w := w) base st o.type et i3 k ht hf v n xs hown
    unfold Oper.wp
    simp [execOp, ho, resolve, invoke, builtin, hs, hx, hrun, Result.andThen]
    exact h v w (by simpa using hown) (World.grownBy.refl _ _) (Or.inl rfl)
  | some ad =>
    have hnews : ∀ j y, vs[j]? = some y → w.cell? (ad.add j) = some y := fun j y hy => by
      have hm : 0 < m := by
        rcases Nat.eq_zero_or_pos m with e | e
        · subst e
          have : vs = [] := List.length_eq_zero_iff.1 (by omega)
          subst this
          simp at hy
        · exact e
      obtain ⟨g, off, e, cs, zz, h5, h6⟩ := hr hm
      cases e
      rw [show (⟨g, off, none⟩ : Addr).add j = ⟨g, off + j, none⟩ by simp [Addr.add]]
      simp [World.cell?, h5, h6 j y hy]
    obtain ⟨v', w', hrun, q1, q2, q3, q4⟩ := run_append_own_at (P := Try.prog) w base st o.type et i3 z k bytes ht hf hz0 hz1 hz2 hzs hk v n xs hown ad m c vs hl hnews h1 h63 hbytes hbase
    unfold Oper.wp
    simp [execOp, ho, resolve, invoke, builtin, hs, hx, hrun, Result.andThen]
    exact h v' w' q1 q2 q4
theorem wp_make {P : Program} {w : World} {o : Oper} {a : Act} {K : Act → World → Prop} {Q : Exit → Act → World → Prop} (l c : Operand) (t : TypeId) (hop : o.op = Op.makeSlice t l c) (e : TypeId) (i : TypeInfo) (z : Value) (h1 : P.underlying t = some (.slice e)) (h2 : P.info? e = some i) (h3 : i.zero = some z) (n : Nat)
    (hl : a.eval l = .int .i64 (n : Int)) (hc : a.eval c = .int .i64 (n : Int)) (b2 : (i.bytes : Int) * n ≤ 281474976710656) (b3 : (n : Int) ≤ 9223372036854775807)
    (hK : K (a.put o.dst (.slice (some ⟨w.heap.size, 0, none⟩) n n)) (w.alloc (.cells (madeCells z.cells (n * i.size)) e))) : o.wp P a w K Q := by
  have hr := run_make (P := P) w t e i z h1 h2 h3 .i64 .i64 (n : Int) (n : Int) (by omega) (Int.le_refl _) b2 b3
  rw [Int.toNat_natCast] at hr
  unfold Oper.wp
  simp [execOp, hop, hl, hc, hr, Result.andThen]
  exact hK
theorem Dp.box {w w' : World} {B c i b q t : Nat} {a : Option Addr} {Q Cp : Nat → Nat} {f : Nat → Nat → Nat} {cs : Array Value} {fr : Nat × Nat} (h : Dp w B a c i b Q Cp f) (hb : w.heap[q]? = some (.cells cs t fr)) (h1 : t ≠ 69) (h2 : t ≠ 3) (T : Touch [q] w w') : Dp w' B a c i b Q Cp f := by
  refine ⟨own_touch h.top T (fun k hk hm => ?_), fun j hj => own_touch (h.row j hj) T (fun k hk hm => ?_), h.inj⟩
  · obtain ⟨cs', h3⟩ := own_kind h.top hk
    simp only [List.mem_singleton] at hm
    subst hm
    rw [hb] at h3
    cases h3
    exact h1 rfl
  · obtain ⟨cs', h3⟩ := own_kind (h.row j hj) hk
    simp only [List.mem_singleton] at hm
    subst hm
    rw [hb] at h3
    cases h3
    exact h2 rfl
section
variable {w : World}
set_option maxHeartbeats 4000000 in
theorem rnew_ (r b : Nat) (r1 : 1 ≤ r) (r2 : r ≤ 8) (b2 : b ≤ 16) : Calls Try.prog 28 #[.int .i64 (r : Nat), .int .i64 (b : Nat)] w fun e w' => ∃ v, e = .returned v ∧ DnE v w w' (newS r b) := by
  obtain ⟨V, hV⟩ : ∃ V, V = (w.alloc (.cells #[.int .i64 0, .slice none 0 0, .int .u64 0] 29)).alloc (.cells #[.int .i64 (b : Nat), .slice none 0 0, .int .u64 0] 29) := ⟨_, rfl⟩
  obtain ⟨TV, hb1, hb2⟩ := two_new w #[.int .i64 0, .slice none 0 0, .int .u64 0] #[.int .i64 (b : Nat), .slice none 0 0, .int .u64 0] 29 29
  rw [← hV] at TV hb1 hb2
  have HSZ : Hid (w.heap.size + 2 ≤ V.heap.size) := hid (by rw [hV]; simp)
  have HB1 := hid hb1
  have HB2 := hid hb2
  have h2 := pow_le16 b2
  have hp := Nat.two_pow_pos b
  have HT := hid TV
  have wb : IntKind.u64.wrap (b : Int) = (b : Int) := by rw [IntKind.wrap_u64]; omega
  have hmin : min b 64 = b := by omega
  have HD0 : Hid (Dp V V.heap.size none 0 0 b (fun _ => 0) (fun _ => 0) (fun _ _ => 0)) := hid ⟨World.ownsRow_nil _ _ _ _, fun j hj => by omega, fun j k hj => by omega⟩
  have eW : (2 : Int) ^ b = ((2 ^ b : Nat) : Int) := by simp
  have HRO : Hid (∀ w1 : World, (w1.alloc (.cells (madeCells #[Value.int .i64 0] (2 ^ b)) 3)).ownsRow w1.heap.size 3 1 (.slice (some ⟨w1.heap.size, 0, none⟩) (2 ^ b) (2 ^ b)) (2 ^ b) (rowv b (fun _ => 0))) := hid (fun w1 => by
    refine own_of_cells (heap_alloc_new w1 _) (Nat.le_refl _) (Nat.le_refl _) (by unfold maxLen; omega) (by simp [size_madeCells]) (by rw [rowv_len]; simp) (fun p v hv => ?_)
    have hp0 : p < (rowv b (fun _ => 0)).length := (List.getElem?_eq_some_iff.1 hv).1
    rw [rowv_len] at hp0
    rw [rowv_at _ hp0] at hv
    cases hv
    refine cell_at (heap_alloc_new w1 _) ?_
    show (madeCells #[Value.int .i64 0] (2 ^ b))[p]? = some (.int .i64 ((0 : Nat) : Int))
    simp [madeCells, hp0, Nat.mod_one])
  obtain ⟨i3, hi3, hz0, hz1, hz2⟩ := info_parts info3
  have w1 : IntKind.i64.wrap ((2 : Int) ^ b) = ((2 ^ b : Nat) : Int) := by rw [eW, IntKind.wrap_i64]; omega
  have w2 : IntKind.i64.wrap ((2 : Int) ^ min b 64) = ((2 ^ b : Nat) : Int) := by rw [hmin]; exact w1
  obtain ⟨W, hW⟩ : ∃ W, W = 2 ^ b := ⟨_, rfl⟩
  rw [← hW] at w1 w2 h2 hp
  have HW := hid hW
  clear hW eW hmin
  clear hb1 hb2 TV
  go_enter Try.func28, Try.ntmps28
  go_upto_region 2 with fail
  rw [← hV]
  clear hV
  go_wp2
  go_loopw [6] (fun s6 wr => ∃ (i : Nat) (a : Option Addr) (c : Nat) (Q' Cp' : Nat → Nat), i ≤ r ∧ s6 = .int .i64 i ∧ Hid (Touch [w.heap.size + 1] V wr ∧ wr.heap[w.heap.size + 1]? = some (.cells #[.int .i64 (b : Nat), .slice a i c, .int .u64 0] 29 (0, 0)) ∧ Dp wr V.heap.size a c i b Q' Cp' (fun _ _ => 0))) (fun s6 _ => r - (intOf s6).toNat)
  case atStart => exact ⟨0, _, _, _, _, Nat.zero_le _, rfl, hid ⟨Touch.refl _ _, HB2.out, HD0.out⟩⟩
  case round =>
    obtain ⟨i, a, c, Q', Cp', hi, rfl, HI⟩ := hrel
    clear HD0
    by_cases hlt : i < r
    · have zi : (i : Int) < (r : Int) := by omega
      go_wp2
      have k0 : (wr.drew).heap[w.heap.size + 1]? = some (.cells #[.int .i64 (b : Nat), .slice a i c, .int .u64 0] 29 (0, 0)) := HI.out.2.1
      have C1 : ∀ w' : World, w'.heap[w.heap.size + 1]? = some (.cells #[.int .i64 (b : Nat), .slice a i c, .int .u64 0] 29 (0, 0)) → w'.cell? ⟨w.heap.size + 1, 1, none⟩ = some (.slice a i c) := fun w' h => cell_at h rfl
      obtain ⟨W0, hW0⟩ : ∃ W0, W0 = wr.drew := ⟨_, rfl⟩
      have HD := hid (HI.out.2.2.keep0 (w' := W0) (by rw [hW0]; exact (Touch.refl _ _).drew))
      have HTW : Hid (Touch [w.heap.size + 1] V W0) := hid (by rw [hW0]; exact HI.out.1.drew)
      obtain ⟨W5, hW5⟩ : ∃ W5, W5 = W0.alloc (.cells (madeCells #[Value.int .i64 0] W) 3) := ⟨_, rfl⟩
      have T5 : Touch [] W0 W5 := by rw [hW5]; exact (Touch.refl _ _).alloc _
      have O5 := HRO.out W0
      rw [← HW.out] at O5
      rw [← hW5] at O5
      rw [← hW0] at k0
      have k5 := T5.keep k0 (by simp)
      have HX : Hid (∀ v6 w6, w6.ownsRow V.heap.size 69 1 v6 (i + 1) (ro Q' Cp' b i ++ [.slice (some ⟨W0.heap.size, 0, none⟩) W W]) → (W5.alloc (.cells #[.slice (some ⟨W0.heap.size, 0, none⟩) W W] 69)).grownBy w6 (Value.slice a i c).ownBlock → ∃ a6 c6, v6 = .slice a6 (i + 1) c6 ∧ (∃ Q2 Cp2, Dp w6 V.heap.size a6 c6 (i + 1) b Q2 Cp2 (fun _ _ => 0)) ∧ w6.heap[w.heap.size + 1]? = some (.cells #[.int .i64 (b : Nat), .slice a i c, .int .u64 0] 29 (0, 0)) ∧ Touch [w.heap.size + 1] V w6) := hid (fun v6 w6 o6 g6 => by
        have hB : V.heap.size ≤ W0.heap.size := HTW.out.size
        have ha := (T5.alloc (.cells #[.slice (some ⟨W0.heap.size, 0, none⟩) W W] 69))
        have O5' := O5
        have o6' := o6
        have g6' := g6
        rw [HW.out] at O5' o6' g6'
        obtain ⟨a6, c6, e6, d6⟩ := HD.out.step T5 O5' hB g6' o6'
        have tg : Touch (Value.slice a i c).ownBlock.toList (W5.alloc (.cells #[.slice (some ⟨W0.heap.size, 0, none⟩) W W] 69)) w6 := (Touch.refl _ _).grown g6 (fun q hq => Or.inl (by simp [hq]))
        have ka := ha.keep k0 (by simp)
        refine ⟨a6, c6, e6, ⟨_, _, d6⟩, tg.keep ka (fun hm => ?_), ?_⟩
        · obtain ⟨cs, h1⟩ := own_kind (HD.out.keep0 ha).top (by simpa using hm)
          rw [ka] at h1
          cases h1
        · refine (HTW.out.trans (ha.mono (G := []) (by simp)) (by simp)).trans tg (fun q hq => Or.inr ?_)
          exact ((HD.out.keep0 ha).top.lt q (by simpa using hq)).1)
      have HW5 := hid hW5
      have HT5 := hid T5
      clear hW5 T5 O5
      refine wp_region_L (S := fun w' => w'.heap[w.heap.size + 1]? = some (.cells #[.int .i64 (b : Nat), .slice a i c, .int .u64 0] 29 (0, 0))) (st := 9) (by kernel_rfl) ?_
      rw [← hW0]
      clear hW0
      refine wpL_take (i := 0) (v := (.pointer (some ⟨(w.heap.size + 1), 1, none⟩))) (some 14) rfl rfl (by kernel_rfl) (by kernel_rfl) (by kernel_rfl) (by kernel_rfl) (by kernel_rfl) (by decide) (fun _ _ _ h => h) (Or.inl ⟨by rfl, fun w' hS => (by go_simp)⟩) k0 ?_
      try simp only [Go.Act.put, List.setIfInBounds_toArray, List.set_cons_zero, List.set_cons_succ]
      refine wpL_take (i := 1) (v := (Value.slice a i c)) (some 15) rfl rfl (by kernel_rfl) (by kernel_rfl) (by kernel_rfl) (by kernel_rfl) (by kernel_rfl) (by decide) (fun _ _ _ h => h) (Or.inl ⟨by rfl, fun w' hS => (by have z0 := C1 _ hS; go_simp)⟩) k0 ?_
      try simp only [Go.Act.put, List.setIfInBounds_toArray, List.set_cons_zero, List.set_cons_succ]
      refine wpL_take (i := 2) (v := (.int .i64 (b : Nat))) (some 16) rfl rfl (by kernel_rfl) (by kernel_rfl) (by kernel_rfl) (by kernel_rfl) (by kernel_rfl) (by decide) (fun _ _ _ h => h) (Or.inl ⟨by rfl, fun w' hS => (by go_simp)⟩) k0 ?_
      try simp only [Go.Act.put, List.setIfInBounds_toArray, List.set_cons_zero, List.set_cons_succ]
      refine wpL_take (i := 3) (v := (.int .u64 (b : Nat))) (some 17) rfl rfl (by kernel_rfl) (by kernel_rfl) (by kernel_rfl) (by kernel_rfl) (by kernel_rfl) (by decide) (fun _ _ _ h => h) (Or.inl ⟨by rfl, fun w' hS => (by go_simp)⟩) k0 ?_
      try simp only [Go.Act.put, List.setIfInBounds_toArray, List.set_cons_zero, List.set_cons_succ]
      refine wpL_take (i := 4) (v := (.int .i64 (W : Nat))) (some 18) rfl rfl (by kernel_rfl) (by kernel_rfl) (by kernel_rfl) (by kernel_rfl) (by kernel_rfl) (by decide) (fun _ _ _ h => h) (Or.inl ⟨by rfl, fun w' hS => (by go_simp)⟩) k0 ?_
      try simp only [Go.Act.put, List.setIfInBounds_toArray, List.set_cons_zero, List.set_cons_succ]
      refine wpL_ready (rs := [5]) (by kernel_rfl) (by simp) (AllL.cons (o := { dst := some 19, op := Op.makeSlice 69 (Operand.tmp 18) (Operand.tmp 18), type := 69, pos := _, after := #[{ on := 4, ground := Ground.data }, { on := 4, ground := Ground.data }], guard := none }) rfl (fun K' hK => ?_) AllL.nil)
      rw [if_pos (by rfl)]
      refine wp_make _ _ 69 rfl 3 i3 (.int .i64 0) Try.underlying69 hi3 hz0 W rfl rfl (by rw [hz2]; omega) (by omega) ?_
      simp only [hz1, Nat.mul_one, Value.cells]
      rw [← HW5.out]
      refine hK.out _ _ (fun _ => k5) ?_
      clear hK
      try simp only [Go.Act.put, List.setIfInBounds_toArray, List.set_cons_zero, List.set_cons_succ]
      refine wpL_ready (rs := [6]) (by kernel_rfl) (by simp) (AllL.cons (o := { dst := some 20, op := Op.buildSlice 26 1 #[(0, Operand.tmp 19)], type := 26, pos := _, after := #[{ on := 5, ground := Ground.data }], guard := none }) rfl (fun K' hK => ?_) AllL.nil)
      rw [if_pos (by rfl)]
      go_simp
      have k6 := ((Touch.refl [] W5).alloc (.cells #[.slice (some ⟨W0.heap.size, 0, none⟩) W W] 69)).keep k5 (by simp)
      refine hK.out _ _ (fun _ => k6) ?_
      clear hK
      try simp only [Go.Act.put, List.setIfInBounds_toArray, List.set_cons_zero, List.set_cons_succ]
      refine wpL_ready (rs := [7]) (by kernel_rfl) (by simp) (AllL.cons (o := { dst := some 21, op := Op.call { callee := Callee.builtin Builtin.append, args := #[Operand.tmp 15, Operand.tmp 20], argTypes := #[26, 26] }, type := 26, pos := _, after := #[{ on := 1, ground := Ground.data }, { on := 6, ground := Ground.data }], guard := none }) rfl (fun K' hK => ?_) AllL.nil)
      rw [if_pos (by rfl)]
      refine wp_append_rs _ _ 26 69 rfl (.slice none 0 0) 1 24 infoL Try.underlying26 rfl (by decide) V.heap.size (.slice a i c) i (ro Q' Cp' b i) rfl (HD.out.keep0 (HT5.out.alloc _)).top (.slice (some ⟨W5.heap.size, 0, none⟩) 1 1) 1 _ rfl (Rs.new W5 #[.slice (some ⟨W0.heap.size, 0, none⟩) W W] 69 1 rfl) (by simp [Value.oneCell']) (by unfold maxLen; omega) (by omega) (Nat.le_trans HTW.out.size (HT5.out.alloc _).size) ?_
      intro v6 w6 o6 g6 _
      obtain ⟨a6, c6, e6, D6, k7, T6⟩ := HX.out v6 w6 o6 g6
      subst e6
      have D6 := hid D6
      have T6 := hid T6
      clear o6 g6
      refine hK.out _ _ (fun _ => k7) ?_
      clear hK
      try simp only [Go.Act.put, List.setIfInBounds_toArray, List.set_cons_zero, List.set_cons_succ]
      refine wpL_take (i := 8) (v := (.pointer (some ⟨(w.heap.size + 1), 1, none⟩))) (some 22) rfl rfl (by kernel_rfl) (by kernel_rfl) (by kernel_rfl) (by kernel_rfl) (by kernel_rfl) (by decide) (fun _ _ _ h => h) (Or.inl ⟨by rfl, fun w' hS => (by go_simp)⟩) k7 ?_
      try simp only [Go.Act.put, List.setIfInBounds_toArray, List.set_cons_zero, List.set_cons_succ]
      refine wpL_ready (rs := [9]) (by kernel_rfl) (by simp) (AllL.cons (o := { dst := none, op := Op.store 26 (Operand.tmp 22) (Operand.tmp 21), type := 0, pos := _, after := #[{ on := 8, ground := Ground.data }, { on := 7, ground := Ground.data }, { on := 7, ground := Ground.chain }, { on := 0, ground := Ground.phase }, { on := 1, ground := Ground.phase }, { on := 2, ground := Ground.phase }, { on := 3, ground := Ground.phase }, { on := 4, ground := Ground.phase }, { on := 5, ground := Ground.phase }, { on := 6, ground := Ground.phase }, { on := 7, ground := Ground.phase }], guard := none }) rfl (fun K' hK => ?_) AllL.nil)
      rw [if_pos (by rfl)]
      have q1 := C1 _ k7
      have q2 := froz_at k7 1
      go_simp
      clear q1 q2
      refine hK.out _ _ (fun h => absurd h (by decide)) ?_
      clear hK
      try simp only [Go.Act.put, List.setIfInBounds_toArray, List.set_cons_zero, List.set_cons_succ]
      refine wpL_done (by kernel_rfl) ?_ _
      have K7 := hid k7
      clear k0 k5 k6 k7
      go_wp2
      obtain ⟨Q2, Cp2, d6⟩ := D6.out
      have ts : Touch [w.heap.size + 1] w6 (w6.setCell ⟨w.heap.size + 1, 1, none⟩ (.slice a6 (i + 1) c6)) := (Touch.refl _ _).setCell (Or.inl (by simp)) _
      refine ⟨⟨i + 1, a6, c6, Q2, Cp2, by omega, rfl, hid ⟨?_, ?_, ?_⟩⟩, by simp [intOf]; omega⟩
      · exact T6.out.trans' ts
      · have := bset (i := 1) K7.out (.slice a6 (i + 1) c6)
        exact this
      · exact d6.box K7.out (by decide) (by decide) ts
    · have ei : i = r := by omega
      subst ei
      have zi : ¬ (i : Int) < (i : Int) := by omega
      obtain ⟨T, m2, D⟩ := HI.out
      obtain ⟨G', c', ee, gl, gu⟩ := own_some D.top r1
      cases ee
      have m1 := T.keep HB1.out (by simp)
      have x0 := cell_at (j := 0) (v := .int .i64 (b : Nat)) m2 rfl
      have x1 := cell_at (j := 1) (v := .slice (some ⟨G', 0, none⟩) i c) m2 rfl
      have x2 := cell_at (j := 2) (v := .int .u64 0) m2 rfl
      have y0 := cell_at (j := 0) (v := .int .i64 0) m1 rfl
      have y1 := cell_at (j := 1) (v := .slice none 0 0) m1 rfl
      have y2 := cell_at (j := 2) (v := .int .u64 0) m1 rfl
      have f1 := froz_at m1
      have HD := hid (Dp.done (X := newS i b) D r1 r2 b2)
      have HTT := hid T
      clear T D HI HRO HB1 HB2 m1 m2
      go_wp2
      refine bodyPost_ret (v := dv (.slice (some ⟨G', 0, none⟩) i c) (newS i b)) (by simp [results, Try.results28, go_sem, dv, newS, y0, y1, y2]) rfl ⟨_, rfl, G', c, Q', Cp', rfl, ?_, ?_⟩
      · have tt : Touch [w.heap.size] wr _ := (((Touch.refl _ wr).setCell (p := ⟨w.heap.size, 0, none⟩) (Or.inl (by simp)) (.int .i64 (b : Nat))).setCell (p := ⟨w.heap.size, 1, none⟩) (Or.inl (by simp)) (.slice (some ⟨G', 0, none⟩) i c)).setCell (p := ⟨w.heap.size, 2, none⟩) (Or.inl (by simp)) (.int .u64 0)
        have hs := HSZ.out
        refine (HD.out.keep tt ?_ (fun j hj => ?_)).base (by omega)
        · have := HD.out.ltG
          simp only [List.mem_cons, List.mem_nil_iff, or_false]
          omega
        · have := HD.out.ltQ hj
          simp only [List.mem_cons, List.mem_nil_iff, or_false]
          omega
      · exact (((HT.out.trans HTT.out (by simp)).setCell (p := ⟨w.heap.size, 0, none⟩) (Or.inr (Nat.le_refl _)) _).setCell (p := ⟨w.heap.size, 1, none⟩) (Or.inr (Nat.le_refl _)) _).setCell (p := ⟨w.heap.size, 2, none⟩) (Or.inr (Nat.le_refl _)) _
end
end Go.Proofs.Ytbadlkjffelkhaa.Sk
