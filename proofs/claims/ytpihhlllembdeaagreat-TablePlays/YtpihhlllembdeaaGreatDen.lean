/- The contract of the document's End. -/
import Derived.Test.YtpihhlllembdeaaGreatDjo
namespace Go.Proofs.YtpihhlllembdeaaGreat
open Go.RowKit Go.Maps Go.ChangeMaps
set_option linter.unusedVariables false
set_option linter.unusedSimpArgs false
theorem Rs.headK {w : World} {t k n c i : Nat} {a : Option Addr} {xs : List Value} (h : Rs t k w (.slice a n c) n xs) (hi : i ≤ n) (hn : 0 < n) : Rs t k w (sliced a 0 i c k) i (xs.take (i * k)) := by
  obtain ⟨h1, a', c', e, h2, h3, h4⟩ := h
  cases e
  obtain ⟨g, off, rfl, cs, z, h5, h6⟩ := h4 hn
  have hle : i * k ≤ n * k := Nat.mul_le_mul_right k hi
  refine ⟨by rw [List.length_take]; omega, _, _, rfl, by omega, fun e => ?_, fun hp => ⟨g, off, ?_, cs, z, h5, fun j u hu => ?_⟩⟩
  · split at e <;> simp at e
  · split <;> simp [Addr.add]
  · rw [List.getElem?_take] at hu
    split at hu
    · exact h6 j u hu
    · cases hu
theorem Rs.tailK {w : World} {t k n c i : Nat} {a : Option Addr} {xs : List Value} (h : Rs t k w (.slice a n c) n xs) (hi : i ≤ n) (hn : 0 < n) : Rs t k w (sliced a i n c k) (n - i) (xs.drop (i * k)) := by
  obtain ⟨h1, a', c', e, h2, h3, h4⟩ := h
  cases e
  obtain ⟨g, off, rfl, cs, z, h5, h6⟩ := h4 hn
  refine ⟨by rw [List.length_drop, h1, Nat.sub_mul], _, _, rfl, by omega, fun e => ?_, fun hp => ⟨g, off + i * k, ?_, cs, z, h5, fun j u hu => ?_⟩⟩
  · split at e <;> simp at e
  · rw [if_neg (by omega)]
    simp [Addr.add]
  · rw [List.getElem?_drop] at hu
    rw [Nat.add_assoc]
    exact h6 (i * k + j) u hu
theorem flat_take {X : Type} {f : X → List Value} {k : Nat} (hf : ∀ x, (f x).length = k) : ∀ (l : List X) (i : Nat), (l.flatMap f).take (i * k) = (l.take i).flatMap f
  | [], i => by simp
  | a :: r, 0 => by simp
  | a :: r, i + 1 => by
    rw [List.take_succ_cons, List.flatMap_cons, List.flatMap_cons, ← flat_take hf r i, List.take_append, hf, Nat.succ_mul, Nat.add_sub_cancel, List.take_of_length_le (by rw [hf]; omega)]
theorem flat_drop {X : Type} {f : X → List Value} {k : Nat} (hf : ∀ x, (f x).length = k) : ∀ (l : List X) (i : Nat), (l.flatMap f).drop (i * k) = (l.drop i).flatMap f
  | [], i => by simp
  | a :: r, 0 => by simp
  | a :: r, i + 1 => by
    rw [List.drop_succ_cons, List.flatMap_cons, ← flat_drop hf r i, List.drop_append, hf, Nat.succ_mul, Nat.add_sub_cancel, List.drop_of_length_le (by rw [hf]; omega), List.nil_append]
theorem sl8_h (W : World) (a : Option Addr) (n c i : Nat) (hi : i ≤ c) : (Instr.slice 28 (.slice a n c) none (some (.int .i64 (i : Int))) none).run Tryz.prog W = .ok (sliced a 0 i c 8) W := by
  rw [run_slice_h W 28 a n c (by kernel_rfl) .i64 (i : Int) (by omega) (by omega), show ((i : Int)).toNat = i by omega]
  go_simp
theorem sl8_l (W : World) (a : Option Addr) (n c i : Nat) (hi : i ≤ n) : (Instr.slice 28 (.slice a n c) (some (.int .i64 (i : Int))) none none).run Tryz.prog W = .ok (sliced a i n c 8) W := by
  rw [run_slice_l W 28 a n c (by kernel_rfl) .i64 (i : Int) (by omega) (by omega), show ((i : Int)).toNat = i by omega]
  go_simp
theorem row8_one {ds : List De} (hv : ∀ d ∈ ds, ∃ a m c, d.v = .slice a m c) : ∀ y ∈ ds.flatMap row8, y.oneCell' = true := fun y hy => by
  obtain ⟨d, hd, hy⟩ := List.mem_flatMap.1 hy
  obtain ⟨a, m, c, e⟩ := hv d hd
  unfold row8 at hy
  rw [e] at hy
  simp only [List.mem_cons, List.not_mem_nil, or_false] at hy
  rcases hy with rfl | rfl | rfl | rfl | rfl | rfl | rfl | rfl <;> rfl
/-- A run less. -/
theorem Dg.cut {w w' : World} {lv gv lv' : Value} {ds : List De} {gs : List (K × Int)} {T : Tb} {M i n : Nat} {d : De} (h : Dg w lv gv ds gs T M) (t : Touch [] w w') (hd : ds[i]? = some d) (hn : n = ds.length) (hl : w'.ownsRow w.heap.size 78 8 lv' (i + (n - (i + 1))) ((ds.flatMap row8).take (i * 8) ++ (ds.flatMap row8).drop ((i + 1) * 8))) : DtE w w' lv gv ds lv' gv gs (outR T d.R.run) := by
  have hi := (List.getElem?_eq_some_iff.1 hd).1
  have hsub : ∀ x ∈ ds.take i ++ ds.drop (i + 1), x ∈ ds := fun x hx => (List.mem_append.1 hx).elim List.mem_of_mem_take List.mem_of_mem_drop
  refine ⟨ds.take i ++ ds.drop (i + 1), ⟨?_, ?_, fun x hx => (h.dt.wr x (hsub x hx)).keep0 t, own_touch h.dt.gr t (fun _ _ e => by cases e), h.dt.go⟩, t, fun b hb => ?_⟩
  · have := cut_out (by have := h.ti.ord; rwa [h.dt.rs] at this) (desOf_at hd)
    simp only [outR, h.dt.rs]
    rw [this]
    unfold desOf
    rw [List.map_append, List.map_take, List.map_drop]
  · rw [List.flatMap_append, ← flat_take row8_len, ← flat_drop row8_len]
    rw [show (ds.take i ++ ds.drop (i + 1)).length = i + (n - (i + 1)) by simp; omega]
    exact own_base hl (Nat.zero_le _)
  · rcases mem_fpD.1 hb with e | e | ⟨x, hx, e⟩
    · exact Or.inr (hl.lt b e).1
    · exact Or.inl (mem_fpD.2 (Or.inr (Or.inl e)))
    · exact Or.inl (mem_fpD.2 (Or.inr (Or.inr ⟨x, hsub x hx, e⟩)))
def endP (w : World) (lv gv : Value) (ds : List De) (gs : List (K × Int)) (T : Tb) (R : Rn) (e : Ending) (w' : World) : Prop := ∃ lv', e = .returned (.tuple #[tv (outR T R.run) lv' gv, .bool (isCur T R)]) ∧ DtE w w' lv gv ds lv' gv gs (outR T R.run)
set_option maxHeartbeats 4000000 in
set_option maxRecDepth 100000 in
theorem end_ (w : World) (lv gv : Value) (ds : List De) (gs : List (K × Int)) (T : Tb) (M i : Nat) (d : De) (h : Dg w lv gv ds gs T M) (hd : ds[i]? = some d) :
    Calls Tryz.prog 53 #[tv T lv gv, .int .i64 (i : Int)] w fun e w' => endP w lv gv ds gs T d.R e w' := by
  obtain ⟨la, lc, ga, gc, rfl, rfl⟩ := h.dt.form
  obtain ⟨n, hn⟩ : ∃ n, n = ds.length := ⟨_, rfl⟩
  obtain ⟨gn, hgn⟩ : ∃ gn, gn = gs.length := ⟨_, rfl⟩
  have hnl := h.len
  have hM := h.hM
  have hgl := h.gl
  have h8 := h.dt.lr
  have h2 := h.dt.gr
  have HF : Hid True := trivial
  obtain ⟨V, hV⟩ : ∃ V, V = (w.alloc (.cells #[.int .i64 T.fl, .int .i64 T.bg, .slice la n lc, .slice ga gn gc] 31)).alloc (.cells #[.int .i64 0, .int .i64 0, .slice none 0 0, .slice none 0 0] 31) := ⟨_, rfl⟩
  have HTc : Hid (Touch [] w V) := by rw [hV]; exact ((Touch.refl _ _).alloc _).alloc _
  have kT : V.heap[w.heap.size]? = some (.cells #[.int .i64 T.fl, .int .i64 T.bg, .slice la n lc, .slice ga gn gc] 31 (0, 0)) := by rw [hV]; exact (Below.heap_alloc _ _ _ (by simp)).trans (heap_alloc_new w _)
  have kZ : V.heap[w.heap.size + 1]? = some (.cells #[.int .i64 0, .int .i64 0, .slice none 0 0, .slice none 0 0] 31 (0, 0)) := by
    rw [hV]
    have := heap_alloc_new (w.alloc (.cells #[.int .i64 T.fl, .int .i64 T.bg, .slice la n lc, .slice ga gn gc] 31)) (.cells #[.int .i64 0, .int .i64 0, .slice none 0 0, .slice none 0 0] 31)
    rwa [World.size_alloc] at this
  have HG : Hid (∀ w', Touch [] w w' → w'.ownsRow 0 78 8 (.slice la n lc) n (ds.flatMap row8)) := fun w' t => own_touch (by rw [hn]; exact h8) t (fun _ _ e => by cases e)
  have HDg : Hid (Dg w (.slice la n lc) (.slice ga gn gc) ds gs T M) := hid (by rw [hn, hgn]; exact h)
  have HGb : Hid (∀ b, (Value.slice ga gn gc).ownBlock = some b → b < w.heap.size) := fun b hb => (h2.lt b (by rw [← hgn]; exact hb)).2
  have HN := hid hn
  have zn : (n : Int) ≤ 4096 := by omega
  have HGn := hid hgn
  have HGl : Hid (gn ≤ 1700000000000) := hid (by omega)
  unfold tv
  rw [← hn, ← hgn]
  obtain ⟨Q, hQ⟩ : ∃ Q : Ending → World → Prop, Q = fun e w' => endP w (.slice la n lc) (.slice ga gn gc) ds gs T d.R e w' := ⟨_, rfl⟩
  have HQ : Hid (∀ e w', endP w (.slice la n lc) (.slice ga gn gc) ds gs T d.R e w' → Q e w') := hid (by rw [hQ]; exact fun e w' hh => hh)
  rw [← hQ]
  clear hQ h h8 h2 hM hgl hnl
  have hdm := List.mem_of_getElem? hd
  obtain ⟨va, vc, ev⟩ := own_form (HDg.out.dt.wr d hdm)
  obtain ⟨vn, hvn⟩ : ∃ vn, vn = d.S.who.length := ⟨_, rfl⟩
  rw [← hvn] at ev
  have hi := (List.getElem?_eq_some_iff.1 hd).1
  have zi : (i : Int) < (n : Int) := by omega
  have HE : Hid (∀ w' (a : Option Addr) (c : Nat), w'.ownsRow w.heap.size 78 8 (.slice a (i + (n - (i + 1))) c) (i + (n - (i + 1))) ((ds.flatMap row8).take (i * 8) ++ (ds.flatMap row8).drop ((i + 1) * 8)) → Touch [] w w' → Q (.returned (.tuple #[.agg #[.int .i64 T.fl, .int .i64 T.bg, .slice a (i + (n - (i + 1))) c, .slice ga gn gc], .bool (isC gs d.R)])) w') := fun w' a c ho X => HQ.out _ _ ⟨.slice a (i + (n - (i + 1))) c, by rw [HDg.out.isC]; rfl, HDg.out.cut X hd hn ho⟩
  have HI : Hid (∀ w', Touch [] w w' → Calls Tryz.prog 29 #[.agg #[.int .i64 T.fl, .int .i64 T.bg, .slice la n lc, .slice ga gn gc], .agg #[.int .i64 d.R.run, .int .i64 d.R.gen, .int .u16 d.R.sp, .string d.R.nm, .bool d.R.rf, .bool d.S.kept, .bool d.S.canc, .slice va vn vc]] w' fun e w2 => e = .returned (.bool (isC gs d.R)) ∧ Touch [] w' w2) := fun w' X => isCur_ w' T.fl T.bg la ga va n lc gn gc vn vc gs d.R d.S hgn (by have := HGl.out; omega) (own_touch (by have := HDg.out.dt.gr; rwa [← hgn] at this) X (fun _ _ e => by cases e))
  have HRs : Hid (∀ w', Touch [] w w' → Rs 78 8 w' (.slice la n lc) n (ds.flatMap row8)) := fun w' X => Rs.of_own (HG.out w' X)
  have hlc : n ≤ lc := by
    obtain ⟨a, c, e, q⟩ := (HRs.out w (Touch.refl _ _)).form
    cases e
    exact q
  have hs1 := fun W => sl8_h W la n lc i (by omega)
  have hs2 := fun W => sl8_l W la n lc (i + 1) (by omega)
  rw [show ((i + 1 : Nat) : Int) = (i : Int) + 1 by omega] at hs2
  have HR1 : Hid (∀ w', Touch [] w w' → Rs 78 8 w' (sliced la 0 i lc 8) i ((ds.flatMap row8).take (i * 8))) := fun w' X => (HRs.out w' X).headK (by omega) (by omega)
  have HR2 : Hid (∀ w', Touch [] w w' → Rs 78 8 w' (sliced la (i + 1) n lc 8) (n - (i + 1)) ((ds.flatMap row8).drop ((i + 1) * 8))) := fun w' X => (HRs.out w' X).tailK (by omega) (by omega)
  have H1 : Hid ((∀ y ∈ (ds.flatMap row8).take (i * 8), y.oneCell' = true) ∧ ∀ y ∈ (ds.flatMap row8).drop ((i + 1) * 8), y.oneCell' = true) := ⟨fun y hy => row8_one HDg.out.vs y (List.mem_of_mem_take hy), fun y hy => row8_one HDg.out.vs y (List.mem_of_mem_drop hy)⟩
  obtain ⟨b1, eb1⟩ : ∃ b, sliced la 0 i lc 8 = .slice b i lc := ⟨_, by unfold sliced; rw [Nat.sub_zero, Nat.sub_zero]⟩
  obtain ⟨b2, eb2⟩ : ∃ b, sliced la (i + 1) n lc 8 = .slice b (n - (i + 1)) (lc - (i + 1)) := ⟨_, rfl⟩
  rw [eb1] at HR1 hs1
  rw [eb2] at HR2 hs2
  have HLn : Hid (n ≤ 4096 ∧ i < n) := hid ⟨by omega, by omega⟩
  have HD := hid hd
  have Hev := hid ev
  obtain ⟨g, c', e, _, _⟩ := own_some (HG.out _ (Touch.refl _ _)) (by omega)
  cases e
  clear eb1 eb2 HQ HDg hn hgn ev hvn hdm hi hlc HRs hd HF
  generalize T.fl = fl at *
  generalize T.bg = bg at *
  generalize isC gs d.R = ic at *
  have HKc := hid (And.intro kT kZ)
  have a0 := cell_at (j := 0) kT rfl
  have a1 := cell_at (j := 1) kT rfl
  have a2 := cell_at (j := 2) kT rfl
  have a3 := cell_at (j := 3) kT rfl
  have af := froz_at kT
  have z0 := cell_at (j := 0) kZ rfl
  have z1 := cell_at (j := 1) kZ rfl
  have z2 := cell_at (j := 2) kZ rfl
  have z3 := cell_at (j := 3) kZ rfl
  have zf := froz_at kZ
  clear kT kZ
  go_enter Tryz.func53, Tryz.ntmps53
  go_upto_region 1 with fail
  rw [← hV]
  clear hV
  have X0 : ∀ w', Touch [] V w' → w'.cell? ⟨g, i * 8, none⟩ = some (.int .i64 d.R.run) := fun w' X => (lr_cells (HG.out w' (HTc.out.trans' X)) HD.out).c0
  have X1 : ∀ w', Touch [] V w' → w'.cell? ⟨g, i * 8 + 1, none⟩ = some (.int .i64 d.R.gen) := fun w' X => (lr_cells (HG.out w' (HTc.out.trans' X)) HD.out).c1
  have X2 : ∀ w', Touch [] V w' → w'.cell? ⟨g, i * 8 + 2, none⟩ = some (.int .u16 d.R.sp) := fun w' X => (lr_cells (HG.out w' (HTc.out.trans' X)) HD.out).c2
  have X3 : ∀ w', Touch [] V w' → w'.cell? ⟨g, i * 8 + 3, none⟩ = some (.string d.R.nm) := fun w' X => (lr_cells (HG.out w' (HTc.out.trans' X)) HD.out).c3
  have X4 : ∀ w', Touch [] V w' → w'.cell? ⟨g, i * 8 + 4, none⟩ = some (.bool d.R.rf) := fun w' X => (lr_cells (HG.out w' (HTc.out.trans' X)) HD.out).c4
  have X5 : ∀ w', Touch [] V w' → w'.cell? ⟨g, i * 8 + 5, none⟩ = some (.bool d.S.kept) := fun w' X => (lr_cells (HG.out w' (HTc.out.trans' X)) HD.out).c5
  have X6 : ∀ w', Touch [] V w' → w'.cell? ⟨g, i * 8 + 6, none⟩ = some (.bool d.S.canc) := fun w' X => (lr_cells (HG.out w' (HTc.out.trans' X)) HD.out).c6
  have X7 : ∀ w', Touch [] V w' → w'.cell? ⟨g, i * 8 + 7, none⟩ = some (.slice va vn vc) := fun w' X => by have := (lr_cells (HG.out w' (HTc.out.trans' X)) HD.out).c7; rwa [Hev.out] at this
  have U0 : ∀ w', Touch [] V w' → w'.cell? ⟨w.heap.size, 0, none⟩ = some (.int .i64 fl) := fun w' X => cell_at (X.keep HKc.out.1 (by simp)) rfl
  have U1 : ∀ w', Touch [] V w' → w'.cell? ⟨w.heap.size, 1, none⟩ = some (.int .i64 bg) := fun w' X => cell_at (X.keep HKc.out.1 (by simp)) rfl
  have U2 : ∀ w', Touch [] V w' → w'.cell? ⟨w.heap.size, 2, none⟩ = some (.slice (some ⟨g, 0, none⟩) n lc) := fun w' X => cell_at (X.keep HKc.out.1 (by simp)) rfl
  have U3 : ∀ w', Touch [] V w' → w'.cell? ⟨w.heap.size, 3, none⟩ = some (.slice ga gn gc) := fun w' X => cell_at (X.keep HKc.out.1 (by simp)) rfl
  have HI2 : Hid (∀ w', Touch [] V w' → _) := fun w' X => HI.out w' (HTc.out.trans' X)
  have k0 : Touch [] V V.drew := (Touch.refl _ _).drew
  refine wp_region_H (S := fun w' => Touch [] V w') (by kernel_rfl) ?_
  refine wpH_take (i := 0) (v := (.agg #[.int .i64 fl, .int .i64 bg, .slice (some ⟨g, 0, none⟩) n lc, .slice ga gn gc])) (some 8) rfl rfl (by kernel_rfl) (by kernel_rfl) (by kernel_rfl) (fun _ _ _ h => h) (Or.inl ⟨by rfl, fun w' hS => (by have z0 := U0 _ hS; have z1 := U1 _ hS; have z2 := U2 _ hS; have z3 := U3 _ hS; go_simp)⟩) k0 ?_
  try simp only [Go.Act.put, List.setIfInBounds_toArray, List.set_cons_zero, List.set_cons_succ]
  refine wpH_take (i := 1) (v := (.pointer (some ⟨w.heap.size, 2, none⟩))) (some 9) rfl rfl (by kernel_rfl) (by kernel_rfl) (by kernel_rfl) (fun _ _ _ h => h) (Or.inl ⟨by rfl, fun w' hS => (by go_simp)⟩) k0 ?_
  try simp only [Go.Act.put, List.setIfInBounds_toArray, List.set_cons_zero, List.set_cons_succ]
  refine wpH_take (i := 2) (v := (.slice (some ⟨g, 0, none⟩) n lc)) (some 10) rfl rfl (by kernel_rfl) (by kernel_rfl) (by kernel_rfl) (fun _ _ _ h => h) (Or.inl ⟨by rfl, fun w' hS => (by have z0 := U2 _ hS; go_simp)⟩) k0 ?_
  try simp only [Go.Act.put, List.setIfInBounds_toArray, List.set_cons_zero, List.set_cons_succ]
  refine wpH_take (i := 3) (v := (.int .i64 (i : Int))) (some 11) rfl rfl (by kernel_rfl) (by kernel_rfl) (by kernel_rfl) (fun _ _ _ h => h) (Or.inl ⟨by rfl, fun w' hS => (by go_simp)⟩) k0 ?_
  try simp only [Go.Act.put, List.setIfInBounds_toArray, List.set_cons_zero, List.set_cons_succ]
  refine wpH_take (i := 4) (v := (.pointer (some ⟨g, i * 8, none⟩))) (some 12) rfl rfl (by kernel_rfl) (by kernel_rfl) (by kernel_rfl) (fun _ _ _ h => h) (Or.inl ⟨by rfl, fun w' hS => (by go_simp)⟩) k0 ?_
  try simp only [Go.Act.put, List.setIfInBounds_toArray, List.set_cons_zero, List.set_cons_succ]
  refine wpH_take (i := 5) (v := (.agg #[.int .i64 d.R.run, .int .i64 d.R.gen, .int .u16 d.R.sp, .string d.R.nm, .bool d.R.rf, .bool d.S.kept, .bool d.S.canc, .slice va vn vc])) (some 13) rfl rfl (by kernel_rfl) (by kernel_rfl) (by kernel_rfl) (fun _ _ _ h => h) (Or.inl ⟨by rfl, fun w' hS => (by have z0 := X0 _ hS; have z1 := X1 _ hS; have z2 := X2 _ hS; have z3 := X3 _ hS; have z4 := X4 _ hS; have z5 := X5 _ hS; have z6 := X6 _ hS; have z7 := X7 _ hS; go_simp)⟩) k0 ?_
  try simp only [Go.Act.put, List.setIfInBounds_toArray, List.set_cons_zero, List.set_cons_succ]
  refine wpH_call (i := 6) (o := { dst := some 14, op := Op.call { callee := Callee.value (Operand.func 29), args := #[Operand.tmp 8, Operand.tmp 13], argTypes := #[31, 78] }, type := 4, pos := _, after := #[{ on := 0, ground := Ground.data }, { on := 5, ground := Ground.data }], guard := none }) (by kernel_rfl) rfl (fun K' hK => ?_)
  rw [if_pos (by rfl)]
  go_simp
  refine (HI2.out _ k0).mono ?_
  rintro e' w4 ⟨rfl, t4⟩
  replace t4 := k0.trans' t4
  refine hK.out _ _ t4 ?_
  clear hK
  try simp only [Go.Act.put, List.setIfInBounds_toArray, List.set_cons_zero, List.set_cons_succ]
  refine wpH_take (i := 7) (v := (.bool ic)) (some 6) rfl rfl (by kernel_rfl) (by kernel_rfl) (by kernel_rfl) (fun _ _ _ h => h) (Or.inl ⟨by rfl, fun w' hS => (by go_simp)⟩) t4 ?_
  try simp only [Go.Act.put, List.setIfInBounds_toArray, List.set_cons_zero, List.set_cons_succ]
  refine wpAnyH_done (by kernel_rfl) ?_ _
  clear X0 X1 X2 X3 X4 X5 X6 X7 U0 U1 U2 U3 HI2 k0 HG HI HD Hev
  obtain ⟨kT, kZ⟩ := HKc.out
  replace kT := t4.keep kT (by first | (simp; done) | (simp; omega))
  replace kZ := t4.keep kZ (by first | (simp; done) | (simp; omega))
  clear HKc a0 a1 a2 a3 af z0 z1 z2 z3 zf
  have HKc := hid (And.intro kT kZ)
  have a0 := cell_at (j := 0) kT rfl
  have a1 := cell_at (j := 1) kT rfl
  have a2 := cell_at (j := 2) kT rfl
  have a3 := cell_at (j := 3) kT rfl
  have af := froz_at kT
  have z0 := cell_at (j := 0) kZ rfl
  have z1 := cell_at (j := 1) kZ rfl
  have z2 := cell_at (j := 2) kZ rfl
  have z3 := cell_at (j := 3) kZ rfl
  have zf := froz_at kZ
  clear kT kZ
  replace HTc := hid (HTc.out.trans' t4)
  clear t4
  go_upto_region 2 with fail
  have HM : Hid ((w4.alloc (.cells #[] 78)).ownsRow w4.heap.size 78 8 (.slice (some ⟨w4.heap.size, 0, none⟩) 0 0) 0 []) := World.ownsRow_made (e := 78) (size := 8) w4 #[] 0 (Nat.le_refl _) (by unfold maxLen; omega) rfl
  have HTa : Hid (Touch [] w (w4.alloc (.cells #[] 78))) := HTc.out.alloc _
  have xa := cell_at (j := 2) (((Touch.refl [] w4).alloc (.cells #[] 78)).keep HKc.out.1 (by simp)) rfl
  go_upto_region 3 with (at_builtin; refine wpList_append_rs rfl _ _ 28 78 rfl _ 8 72 infoR Tryz.underlying28 rfl (by decide) w4.heap.size _ 0 [] rfl HM.out _ i _ rfl (HR1.out _ HTa.out) H1.out.1 (by have := HLn.out; unfold maxLen; omega) (by have := HLn.out; omega) (by simp) ?_; intro v5 w5 o5 g5 p5; rw [Nat.zero_add, List.nil_append] at o5; have t5 : Touch [] w4 w5 := touch_grown ((Touch.refl [] w4).alloc _) g5 HM.out (Nat.le_refl _); obtain ⟨a5, c5, e5⟩ := own_form o5; subst e5; have O5 := hid (own_base (B' := w.heap.size + 2) o5 (by have := block_lt HKc.out.2; omega)); clear xa HTa o5 g5 p5; obtain ⟨kT, kZ⟩ := HKc.out; replace kT := t5.keep kT (by first | (simp; done) | (simp; omega)); replace kZ := t5.keep kZ (by first | (simp; done) | (simp; omega)); clear HKc a0 a1 a2 a3 af z0 z1 z2 z3 zf; have HKc := hid (And.intro kT kZ); have a0 := cell_at (j := 0) kT rfl; have a1 := cell_at (j := 1) kT rfl; have a2 := cell_at (j := 2) kT rfl; have a3 := cell_at (j := 3) kT rfl; have af := froz_at kT; have z0 := cell_at (j := 0) kZ rfl; have z1 := cell_at (j := 1) kZ rfl; have z2 := cell_at (j := 2) kZ rfl; have z3 := cell_at (j := 3) kZ rfl; have zf := froz_at kZ; clear kT kZ; replace HTc := hid (HTc.out.trans' t5); clear t5)
  clear HM hs1 HR1
  go_upto_region 4 with (at_builtin; refine wpList_append_rs rfl _ _ 28 78 rfl _ 8 72 infoR Tryz.underlying28 rfl (by decide) (w.heap.size + 2) _ i _ rfl O5.out _ (n - (i + 1)) _ rfl (HR2.out _ HTc.out) H1.out.2 (by have := HLn.out; unfold maxLen; omega) (by have := HLn.out; omega) (by have := block_lt HKc.out.2; omega) ?_; intro v6 w6 o6 g6 p6; have tg := (Touch.refl _ _).grown g6 (fun q hq => Or.inl (Option.mem_toList.2 hq)); obtain ⟨kT, kZ⟩ := HKc.out; replace kT := tg.keep kT (fun e => by have := (O5.out.lt _ (Option.mem_toList.1 e)).1; omega); replace kZ := tg.keep kZ (fun e => by have := (O5.out.lt _ (Option.mem_toList.1 e)).1; omega); clear HKc a0 a1 a2 a3 af z0 z1 z2 z3 zf; have HKc := hid (And.intro kT kZ); have a0 := cell_at (j := 0) kT rfl; have a1 := cell_at (j := 1) kT rfl; have a2 := cell_at (j := 2) kT rfl; have a3 := cell_at (j := 3) kT rfl; have af := froz_at kT; have z0 := cell_at (j := 0) kZ rfl; have z1 := cell_at (j := 1) kZ rfl; have z2 := cell_at (j := 2) kZ rfl; have z3 := cell_at (j := 3) kZ rfl; have zf := froz_at kZ; clear kT kZ; replace HTc := hid (touch_grown HTc.out g6 O5.out (by omega)); clear tg; obtain ⟨a6, c6, e6⟩ := own_form o6; subst e6; have O6 := hid o6; clear o6 g6 p6 O5)
  clear HR2 hs2 H1
  obtain ⟨kT, kZ⟩ := HKc.out
  obtain ⟨W7, hW7⟩ : ∃ W, W = (w6.setCell ⟨w.heap.size, 2, none⟩ (.slice a6 (i + (n - (i + 1))) c6)) := ⟨_, rfl⟩
  obtain ⟨kq, tq⟩ := set1 kT 2 (.slice a6 (i + (n - (i + 1))) c6)
  rw [← hW7] at kq tq ⊢
  clear hW7
  replace kT := kq
  replace kZ := tq.keep kZ (by first | (simp; done) | (simp; omega))
  clear kq
  clear HKc a0 a1 a2 a3 af z0 z1 z2 z3 zf
  have HKc := hid (And.intro kT kZ)
  have a0 := cell_at (j := 0) kT rfl
  have a1 := cell_at (j := 1) kT rfl
  have a2 := cell_at (j := 2) kT rfl
  have a3 := cell_at (j := 3) kT rfl
  have af := froz_at kT
  have z0 := cell_at (j := 0) kZ rfl
  have z1 := cell_at (j := 1) kZ rfl
  have z2 := cell_at (j := 2) kZ rfl
  have z3 := cell_at (j := 3) kZ rfl
  have zf := froz_at kZ
  clear kT kZ
  replace HTc := hid (HTc.out.trans tq (fun b hb => Or.inr (by simp at hb; omega)))
  replace O6 := hid (own_touch O6.out tq (fun b hb e => by have := (O6.out.lt b hb).1; simp at e; omega))
  clear tq
  go_wp2
  obtain ⟨kT, kZ⟩ := HKc.out
  obtain ⟨q4, tF⟩ := finZ kZ (.int .i64 fl) (.int .i64 bg) (.slice a6 (i + (n - (i + 1))) c6) (.slice ga gn gc)
  have q0 := cell_at (j := 0) q4 rfl
  have q1 := cell_at (j := 1) q4 rfl
  have q2 := cell_at (j := 2) q4 rfl
  have q3 := cell_at (j := 3) q4 rfl
  exact bodyPost_ret (v := .tuple #[.agg #[.int .i64 fl, .int .i64 bg, .slice a6 (i + (n - (i + 1))) c6, .slice ga gn gc], .bool ic]) (by simp [results, Tryz.results53, go_sem, q0, q1, q2, q3]) rfl (HE.out _ _ _ (own_base (own_touch O6.out tF (fun b hb e => by have := (O6.out.lt b hb).1; simp at e; omega)) (by omega)) (HTc.out.trans tF (fun b hb => Or.inr (by simp at hb; omega))))
end Go.Proofs.YtpihhlllembdeaaGreat
