/- The document's counts of events; no conditions but those that each states. -/
import Derived.Test.YtibgfkjhohgkhaaTls
import Derived.Test.YtibgfkjhohgkhaaTle
namespace Go.Proofs.Ytibgfkjhohgkhaa.Ty
open Go.RowKit Go.Maps Go.ChangeMaps
open Tr
set_option linter.unusedVariables false
set_option linter.unusedSimpArgs false
theorem fset_comm {f : Nat → Int} {i k : Nat} {v u : Int} (h : i ≠ k) : fset (fset f i v) k u = fset (fset f k u) i v := by
  funext j
  unfold fset
  by_cases e : j = k
  · subst e; rw [if_pos rfl, if_neg (fun x => h x.symm), if_pos rfl]
  · rw [if_neg e, if_neg e]
theorem fset_self {f : Nat → Int} {i : Nat} {v : Int} (h : v = f i) : fset f i v = f := by
  funext j
  unfold fset
  by_cases e : j = i
  · subst e; rw [if_pos rfl, h]
  · rw [if_neg e]
theorem row_set25 {w : World} {b i : Nat} {kl v : Int} {f : Nat → Int} {t : TypeId} (h : Row w b 27 (fset f 25 kl) t) (hi : i < 27) (hn : i ≠ 25) : Row (w.setCell ⟨b, i, none⟩ (.int .i64 v)) b 27 (fset (fset f i v) 25 kl) t := by
  rw [fset_comm hn]
  exact h.set hi v
theorem row_cell25 {w : World} {b i : Nat} {kl : Int} {f : Nat → Int} {t : TypeId} (h : Row w b 27 (fset f 25 kl) t) (hi : i < 27) (hn : i ≠ 25) : w.cell? ⟨b, i, none⟩ = some (.int .i64 (f i)) := by
  have := h.cell hi
  rwa [fset_ne hn] at this
theorem rd_one (w : World) (x : Int) : Rd (w.alloc (.cells #[.int .i64 x] 3)) (.slice (some ⟨w.heap.size, 0, none⟩) 1 1) [x] := by
  refine ⟨_, 1, rfl, Nat.le_refl _, by unfold maxLen; omega, fun e => (by cases e), Or.inr ⟨_, _, 3, _, rfl, heap_alloc_new w _, fun i hi => ?_⟩⟩
  match i, hi with
  | 0, hi => rfl
theorem touch_grownF {F : List Nat} {w0 w w' : World} {g : Nat} (t : Touch F w0 w) (gr : w.grownBy w' (some g)) (hg : w0.heap.size ≤ g) : Touch F w0 w' :=
  t.trans ((Touch.refl [g] w).grown gr (fun q hq => Or.inl (by simpa using hq.symm))) (fun q hq => Or.inr (by simp at hq; omega))
theorem grown_touch {w w' : World} {g : Nat} (gr : w.grownBy w' (some g)) : Touch [g] w w' := (Touch.refl [g] w).grown gr (fun q hq => Or.inl (by simpa using hq.symm))
theorem without_snoc {R : List Int} {x y : Int} (k : Nat) (h : R[k]? = some y) : without (R.take (k + 1)) x = if y = x then without (R.take k) x else without (R.take k) x ++ [y] := by
  rw [List.take_add_one, h]
  unfold without
  by_cases e : y = x <;> simp [e]
theorem ic_kl (kl : Int) : ic 27 (fset z0 25 kl) = #[.int .i64 0, .int .i64 0, .int .i64 0, .int .i64 0, .int .i64 0, .int .i64 0, .int .i64 0, .int .i64 0, .int .i64 0, .int .i64 0, .int .i64 0, .int .i64 0, .int .i64 0, .int .i64 0, .int .i64 0, .int .i64 0, .int .i64 0, .int .i64 0, .int .i64 0, .int .i64 0, .int .i64 0, .int .i64 0, .int .i64 0, .int .i64 0, .int .i64 0, .int .i64 kl, .int .i64 0] := by
  unfold ic
  simp [List.range, List.range.loop, fset, z0]
theorem wpList_slen {w : World} {ops : Array Oper} {rest : List Oper} {o : Oper} {a : Act} {Q : Exit → Act → World → Prop} (hg : o.guard = none) (m : Operand) (hop : o.op = Op.call { callee := Callee.builtin Builtin.len, args := #[m], argTypes := #[75] }) (p : Option Addr) (n c : Nat) (hm : a.eval m = .slice p n c)
    (hK : wpList Try.prog ops Q rest (a.put o.dst (.int .i64 n)) w) : wpList Try.prog ops Q (o :: rest) a w := by
  refine wpList_plain hg fun K' hK' => ?_
  have h : ∀ ev : Operand → Value, ev m = .slice p n c → (execOp ev o).run Try.prog w = .ok (.value (.int .i64 n)) w := fun ev hev => by
    simp [execOp, hop, hev, go_sem, Try.underlying75]
  unfold Oper.wp
  rw [h _ hm]
  exact hK' _ _ hK
theorem wpList_build30 {w : World} {ops : Array Oper} {rest : List Oper} {o : Oper} {a : Act} {Q : Exit → Act → World → Prop} (hg : o.guard = none) (x : Operand) (hop : o.op = Op.build 30 #[(3, x)]) (kl : Int) (hx : a.eval x = .int .i64 kl)
    (hK : wpList Try.prog ops Q rest (a.put o.dst (.agg (ic 27 (fset z0 25 kl)))) w) : wpList Try.prog ops Q (o :: rest) a w := by
  refine wpList_plain hg fun K' hK' => ?_
  have h : ∀ ev : Operand → Value, ev x = .int .i64 kl → (execOp ev o).run Try.prog w = .ok (.value (.agg (ic 27 (fset z0 25 kl)))) w := fun ev hev => by
    rw [ic_kl]
    simp [execOp, hop, hev, go_sem]
  unfold Oper.wp
  rw [h _ hx]
  exact hK' _ _ hK
theorem tl3 (w : World) {u : World} (h : Touch [] w u) {w' : World} (t : Touch [w.heap.size] u w') : Touch [] w w' := h.trans t (fun i hi => Or.inr (by simp at hi; omega))
theorem ic_z0 : ic 27 z0 = #[.int .i64 0, .int .i64 0, .int .i64 0, .int .i64 0, .int .i64 0, .int .i64 0, .int .i64 0, .int .i64 0, .int .i64 0, .int .i64 0, .int .i64 0, .int .i64 0, .int .i64 0, .int .i64 0, .int .i64 0, .int .i64 0, .int .i64 0, .int .i64 0, .int .i64 0, .int .i64 0, .int .i64 0, .int .i64 0, .int .i64 0, .int .i64 0, .int .i64 0, .int .i64 0, .int .i64 0] := by
  unfold ic
  simp [List.range, List.range.loop, z0]
theorem wpList_alloc30 {w : World} {ops : Array Oper} {rest : List Oper} {o : Oper} {a : Act} {Q : Exit → Act → World → Prop} (hg : o.guard = none) (hop : o.op = Op.alloc 30)
    (hK : wpList Try.prog ops Q rest (a.put o.dst (.pointer (some ⟨w.heap.size, 0, none⟩))) (w.alloc (.cells (ic 27 z0) 30))) : wpList Try.prog ops Q (o :: rest) a w := by
  refine wpList_plain hg fun K' hK' => ?_
  have h : ∀ ev : Operand → Value, (execOp ev o).run Try.prog w = .ok (.value (.pointer (some ⟨w.heap.size, 0, none⟩))) (w.alloc (.cells (ic 27 z0) 30)) := fun ev => by
    rw [ic_z0]
    simp [execOp, hop, go_sem]
  unfold Oper.wp
  rw [h a.eval]
  exact hK' _ _ hK
/-- What the document has in memory. -/
structure Rn (w wr : World) (b : Nat) (kl : Int) (f : Nat → Int) (R : List Int) (g0 cap : Nat) : Prop where
  lt : w.heap.size < b
  r0 : Row wr w.heap.size 27 z0 30
  r1 : Row wr b 27 (fset f 25 kl) 30
  own : wr.ownsRow (b + 1) 3 1 (.slice (some ⟨g0, 0, none⟩) R.length cap) R.length (ints R)
  t : Touch [] w wr
section
variable {w wr w' : World} {b : Nat} {kl : Int} {f : Nat → Int} {R : List Int} {g0 cap : Nat}
theorem Rn.keep (h : Rn w wr b kl f R g0 cap) (T : Touch [] wr w') : Rn w w' b kl f R g0 cap := ⟨h.lt, h.r0.keep T (by simp), h.r1.keep T (by simp), own_touch h.own T (fun _ _ h => by cases h), h.t.trans' T⟩
theorem Rn.set (h : Rn w wr b kl f R g0 cap) {i : Nat} {v : Int} (hi : i < 27) (hn : i ≠ 25) (hw : w' = wr.setCell ⟨b, i, none⟩ (.int .i64 v)) : Rn w w' b kl (fset f i v) R g0 cap := by
  have T : Touch [b] wr w' := by rw [hw]; exact (Touch.refl _ _).setCell (Or.inl (by simp)) _
  have hl := h.lt
  have hb := Un.owns_base h.own
  refine ⟨h.lt, h.r0.keep T (by simp; omega), by rw [hw]; exact row_set25 h.r1 hi hn, own_touch h.own T (fun q hq => ?_), h.t.trans T (fun i hi => Or.inr (by simp at hi; omega))⟩
  simp only [Value.ownBlock, Option.some.injEq] at hq
  simp; omega
theorem Rn.list (h : Rn w wr b kl f R g0 cap) {x : Nat} (T : Touch [x] wr w') (hx : b < x) {R' : List Int} {g' c' : Nat} (ho : w'.ownsRow (b + 1) 3 1 (.slice (some ⟨g', 0, none⟩) R'.length c') R'.length (ints R')) : Rn w w' b kl f R' g' c' := by
  have hl := h.lt
  exact ⟨h.lt, h.r0.keep T (by simp; omega), h.r1.keep T (by simp; omega), ho, h.t.trans T (fun i hi => Or.inr (by simp at hi; omega))⟩
theorem Rn.list0 (h : Rn w wr b kl f R g0 cap) (T : Touch [] wr w') {R' : List Int} {g' c' : Nat} (ho : w'.ownsRow (b + 1) 3 1 (.slice (some ⟨g', 0, none⟩) R'.length c') R'.length (ints R')) : Rn w w' b kl f R' g' c' :=
  ⟨h.lt, h.r0.keep T (by simp), h.r1.keep T (by simp), ho, h.t.trans' T⟩
theorem Rn.blt (h : Rn w wr b kl f R g0 cap) : b < wr.heap.size := h.r1.lt
end
set_option maxHeartbeats 8000000 in
set_option maxRecDepth 20000 in
theorem rof_ {w : World} {v : Value} {L : List Ez} (h : Ev w v L) (hl : L.length ≤ 2000) :
    Calls Try.prog 9 #[v] w fun r w' => r = .returned (.agg (ic 27 (ofL L))) ∧ Touch [] w w' := by
  have H := hid h
  have t1 : Touch [] w (w.alloc (.cells (ic 27 z0) 30)) := (Touch.refl [] w).alloc _
  have HKO := hid (rkeys_ (h.keep t1) hl)
  have T1 := hid t1
  have B0 := hid (show Row (w.alloc (.cells (ic 27 z0) 30)) w.heap.size 27 z0 30 from heap_alloc_new w _)
  obtain ⟨a, c, rfl, hc, hrow⟩ := h
  clear hrow t1
  obtain ⟨n, hn⟩ : ∃ n, L.length = n := ⟨_, rfl⟩
  have HN := hid hn
  have HKL := hid (show (oL L).K.length ≤ 2000 from by have := (Oi.all L).kl; omega)
  rw [hn] at hl hc H HKO ⊢
  clear hn
  obtain ⟨kl, hkl⟩ : ∃ kl : Nat, (oL L).K.length = kl := ⟨_, rfl⟩
  rw [hkl] at HKO HKL
  have HKE := hid hkl
  clear hkl
  go_enter Try.func9, Try.ntmps9
  go_upto_region 2 with (first | (refine wpList_slen rfl _ rfl ka kl kc rfl ?_) | (refine wpList_build30 rfl _ rfl (kl : Int) rfl ?_; refine wpList_alloc30 rfl rfl ?_) | (go_at_call 26; refine HKO.out.mono ?_; rintro r w1 ⟨ka, kc, rfl, t1⟩; have T2 := hid (T1.out.trans' t1); have B1 := hid (B0.out.keep t1 (by simp)); clear t1) | (refine wpList_storeT big30 rfl _ _ rfl w1.heap.size (ic 27 z0) (ic 27 (fset z0 25 (kl : Int))) 30 rfl rfl (heap_alloc_new w1 _) (ic_size _ _) (ic_size _ _) ic_one ?_; intro w2 h2 t2 s2; have HR1 := hid (show Row w2 w1.heap.size 27 (fset z0 25 (kl : Int)) 30 from h2); have HB2 := hid ((B1.out.keep ((Touch.refl [] _).alloc _) (by simp)).keep t2 (by simp; have := B1.out.lt; omega)); have T3 := hid (T2.out.trans' (tl3 w1 ((Touch.refl [] _).alloc _) t2)); have HSZ := hid (show w2.heap.size = w1.heap.size + 1 from by rw [s2]; simp); have HLT := hid B1.out.lt; clear h2 t2 s2))
  have HO0 := hid (show Rn w (w2.alloc (.cells #[] 3)) w1.heap.size (kl : Int) z0 [] w2.heap.size 0 from ⟨HLT.out, HB2.out.keep ((Touch.refl [] _).alloc _) (by simp), HR1.out.keep ((Touch.refl [] _).alloc _) (by simp), World.ownsRow_made (e := 3) (size := 1) w2 (base := w1.heap.size + 1) #[] 0 (by have := HSZ.out; omega) (by unfold maxLen; omega) rfl, T3.out.alloc _⟩)
  clear HR1 HB2 T3 HSZ HLT B1 T2 T1 B0 HKO
  generalize w1.heap.size = b at *
  go_wp2_with fail
  go_loopw [4, 18] (fun o i wr => ∃ (j g0 cap : Nat), i = .int .i64 j ∧ o = .slice (some ⟨g0, 0, none⟩) (oL (L.take j)).R.length cap ∧ j ≤ n ∧ Hid (Rn w wr b (kl : Int) (oL (L.take j)).f (oL (L.take j)).R g0 cap)) (fun _ i _ => n - (intOf i).toNat)
  case atStart => exact ⟨0, _, 0, rfl, rfl, Nat.zero_le _, HO0⟩
  case round =>
    clear HO0
    obtain ⟨j, g0, cap, rfl, rfl, hj, HJ⟩ := hrel
    by_cases hlt : j < n
    · obtain ⟨e, he⟩ : ∃ e, L[j]? = some e := ⟨_, List.getElem?_eq_getElem (by rw [HN.out]; exact hlt)⟩
      have hoi := Oi.all (L.take j)
      rw [List.length_take, HN.out, Nat.min_eq_left hj] at hoi
      have HI := hid hoi
      have HSN := hid (show oL (L.take (j + 1)) = oS (oL (L.take j)) e by rw [List.take_add_one, he]; exact oL_snoc _ _)
      obtain ⟨g, off, rfl, hg, c0, c1, c2, c3, c4, c5, c6, c7, c8, c9, c10, c11, c12⟩ := (H.out.keep HJ.out.t).at_ he
      clear hoi he
      generalize oL (L.take j) = s at *
      have HMO := hid (show ¬ s.f 26 < (s.R.length : Int) from by have := HI.out.mo; omega)
      have B1 : Ib (wr.alloc (.cells #[.int .i64 e.at_, .int .i64 e.kd, .int .i64 e.cl, .int .i64 e.ca, .int .i64 e.ru, .int .i64 e.ge, .int .i64 e.ho, .int .u16 e.sp, .string e.nm, .int .i64 e.va, .int .i64 e.fk, .int .i64 e.fc, .int .i64 e.fr] 82)) wr.heap.size e := Ib.new wr e 82
      have HO1 := hid (HJ.out.keep ((Touch.refl [] wr).alloc (.cells #[.int .i64 e.at_, .int .i64 e.kd, .int .i64 e.cl, .int .i64 e.ca, .int .i64 e.ru, .int .i64 e.ge, .int .i64 e.ho, .int .u16 e.sp, .string e.nm, .int .i64 e.va, .int .i64 e.fk, .int .i64 e.fc, .int .i64 e.fr] 82)))
      have HEB := hid HJ.out.blt
      clear HJ
      go_upto_region 6 with fail
      clear c0 c1 c2 c3 c4 c5 c6 c7 c8 c9 c10 c11 c12 hg
      generalize wr.alloc (.cells #[.int .i64 e.at_, .int .i64 e.kd, .int .i64 e.cl, .int .i64 e.ca, .int .i64 e.ru, .int .i64 e.ge, .int .i64 e.ho, .int .u16 e.sp, .string e.nm, .int .i64 e.va, .int .i64 e.fk, .int .i64 e.fc, .int .i64 e.fr] 82) = W1 at *
      have HB1 := hid B1
      generalize wr.heap.size = eb at *
      obtain ⟨c0, c1, c2, c3, c4, c5, c6, c7, c8, c9, c10, c11, c12⟩ := B1
      by_cases hk : e.kd = 1
      · have HS1 := hid (show oS s e = ⟨inc (k1 s e) 12 7 e.ho, push s.K (Ez.key e), s.R⟩ from if_pos hk)
        have HK := hid hk
        rw [hk] at c1
        have b0 := HI.out.lo 1
        have b1 := HI.out.hi 1
        have HKF := hid (show k1 s e = fset s.f 1 (s.f 1 + 1) from by unfold k1; rw [show kk e.kd = 1 by rw [hk]; rfl])
        have hz := row_cell25 HO1.out.r1 (i := 1) (by omega) (by omega)
        have hf := HO1.out.r1.froz 1
        have HST := hid (show ∀ w2, w2 = W1.setCell ⟨b, 1, none⟩ (.int .i64 (s.f 1 + 1)) → Rn w w2 b kl (k1 s e) s.R g0 cap ∧ Ib w2 eb e from fun w2 hw2 => by
          have t2 : Touch [b] W1 w2 := by rw [hw2]; exact (Touch.refl _ _).setCell (Or.inl (by simp)) _
          exact ⟨by rw [HKF.out]; have := HO1.out.set (i := 1) (by omega) (by omega) hw2; exact this, ib_keep HB1.out t2 (by simp; have := HEB.out; omega)⟩)
        go_upto_region 9 with (refine wpList_st1 rfl _ _ rfl b 1 (s.f 1 + 1) (s.f 1) rfl rfl hz hf ?_; intro W2 hw2; obtain ⟨o2, b2⟩ := HST.out _ hw2; have HO2 := hid o2; have HB2 := hid b2; clear hw2 o2 b2 hz hf HST)
        clear c0 c1 c2 c3 c4 c5 c6 c7 c8 c9 c10 c11 c12 HO1 HB1
        by_cases h1 : 0 ≤ e.ho
        · by_cases h2 : e.ho ≤ 6
          · obtain ⟨c0, c1, c2, c3, c4, c5, c6, c7, c8, c9, c10, c11, c12⟩ := HB2.out
            rw [HK.out] at c1
            obtain ⟨p, hp⟩ : ∃ p : Nat, e.ho = (p : Int) := ⟨e.ho.toNat, by omega⟩
            have hpl : p < 7 := by omega
            have HG := hid (show inc (k1 s e) 12 7 e.ho = fset (k1 s e) (12 + p) (s.f (12 + p) + 1) from by unfold inc; rw [if_pos ⟨h1, by omega⟩, hp, show ((p : Int)).toNat = p by omega, k1_ne (by omega)])
            have b0 := HI.out.lo (12 + p)
            have b1 := HI.out.hi (12 + p)
            have HP := hid hp
            rw [hp] at c6
            clear hp
            have hz := row_cell25 HO2.out.r1 (i := (12 + p)) (by omega) (by omega)
            rw [k1_ne (by omega)] at hz
            have hf := HO2.out.r1.froz (12 + p)
            have HST := hid (show ∀ w2, w2 = W2.setCell ⟨b, (12 + p), none⟩ (.int .i64 (s.f (12 + p) + 1)) → Rn w w2 b kl (inc (k1 s e) 12 7 e.ho) s.R g0 cap ∧ Ib w2 eb e from fun w2 hw2 => by
              have t2 : Touch [b] W2 w2 := by rw [hw2]; exact (Touch.refl _ _).setCell (Or.inl (by simp)) _
              exact ⟨by rw [HG.out]; have := HO2.out.set (i := (12 + p)) (by omega) (by omega) hw2; exact this, ib_keep HB2.out t2 (by simp; have := HEB.out; omega)⟩)
            go_upto_region 11 with (refine wpList_st1 rfl _ _ rfl b (12 + p) (s.f (12 + p) + 1) (s.f (12 + p)) rfl rfl hz hf ?_; intro W3 hw2; obtain ⟨o2, b2⟩ := HST.out _ hw2; have HO3 := hid o2; have HB3 := hid b2; clear hw2 o2 b2 hz hf HST)
            clear c0 c1 c2 c3 c4 c5 c6 c7 c8 c9 c10 c11 c12 HO2 HB2
            obtain ⟨c0, c1, c2, c3, c4, c5, c6, c7, c8, c9, c10, c11, c12⟩ := HB3.out
            rw [HK.out] at c1
            have c26 := row_cell25 HO3.out.r1 (i := 26) (by omega) (by omega)
            rw [(inc_ne (by omega)).trans (k1_ne (by omega))] at c26
            have hmo := HMO.out
            generalize s.f 26 = x26 at *
            go_wp2_with fail
            go_roundw
            case rel => exact ⟨j + 1, g0, cap, rfl, by rw [HSN.out, HS1.out], by omega, hid (by rw [HSN.out, HS1.out]; exact HO3.out)⟩
            case measure => first | (simp [intOf]; done) | (simp [intOf]; omega)
          · have HN := hid (show inc (k1 s e) 12 7 e.ho = k1 s e from if_neg (by omega))
            obtain ⟨c0, c1, c2, c3, c4, c5, c6, c7, c8, c9, c10, c11, c12⟩ := HB2.out
            rw [HK.out] at c1
            have c26 := row_cell25 HO2.out.r1 (i := 26) (by omega) (by omega)
            rw [k1_ne (by omega)] at c26
            have hmo := HMO.out
            generalize s.f 26 = x26 at *
            go_wp2_with fail
            go_roundw
            case rel => exact ⟨j + 1, g0, cap, rfl, by rw [HSN.out, HS1.out], by omega, hid (by rw [HSN.out, HS1.out]; show Rn w W2 b kl (inc (k1 s e) 12 7 e.ho) s.R g0 cap; rw [HN.out]; exact HO2.out)⟩
            case measure => first | (simp [intOf]; done) | (simp [intOf]; omega)
        · have HN := hid (show inc (k1 s e) 12 7 e.ho = k1 s e from if_neg (by omega))
          obtain ⟨c0, c1, c2, c3, c4, c5, c6, c7, c8, c9, c10, c11, c12⟩ := HB2.out
          rw [HK.out] at c1
          have c26 := row_cell25 HO2.out.r1 (i := 26) (by omega) (by omega)
          rw [k1_ne (by omega)] at c26
          have hmo := HMO.out
          generalize s.f 26 = x26 at *
          go_wp2_with fail
          go_roundw
          case rel => exact ⟨j + 1, g0, cap, rfl, by rw [HSN.out, HS1.out], by omega, hid (by rw [HSN.out, HS1.out]; show Rn w W2 b kl (inc (k1 s e) 12 7 e.ho) s.R g0 cap; rw [HN.out]; exact HO2.out)⟩
          case measure => first | (simp [intOf]; done) | (simp [intOf]; omega)
      · by_cases hk2 : e.kd = 2
        · have hk := hk2
          clear hk2
          have HK := hid hk
          have HS2 := hid (show oS s e = ⟨fset (k1 s e) 26 (max (s.f 26) ((without s.R e.ru ++ [e.ru]).length : Nat)), s.K, without s.R e.ru ++ [e.ru]⟩ from (if_neg (by rw [hk]; decide)).trans (if_pos hk))
          rw [hk] at c1
          have b0 := HI.out.lo 2
          have b1 := HI.out.hi 2
          have HKF := hid (show k1 s e = fset s.f 2 (s.f 2 + 1) from by unfold k1; rw [show kk e.kd = 2 by rw [hk]; rfl])
          have hz := row_cell25 HO1.out.r1 (i := 2) (by omega) (by omega)
          have hf := HO1.out.r1.froz 2
          have HST := hid (show ∀ w2, w2 = W1.setCell ⟨b, 2, none⟩ (.int .i64 (s.f 2 + 1)) → Rn w w2 b kl (k1 s e) s.R g0 cap ∧ Ib w2 eb e from fun w2 hw2 => by
            have t2 : Touch [b] W1 w2 := by rw [hw2]; exact (Touch.refl _ _).setCell (Or.inl (by simp)) _
            exact ⟨by rw [HKF.out]; have := HO1.out.set (i := 2) (by omega) (by omega) hw2; exact this, ib_keep HB1.out t2 (by simp; have := HEB.out; omega)⟩)
          go_upto_region 9 with (refine wpList_st1 rfl _ _ rfl b 2 (s.f 2 + 1) (s.f 2) rfl rfl hz hf ?_; intro W2 hw2; obtain ⟨o2, b2⟩ := HST.out _ hw2; have HO2 := hid o2; have HB2 := hid b2; clear hw2 o2 b2 hz hf HST)
          clear c0 c1 c2 c3 c4 c5 c6 c7 c8 c9 c10 c11 c12 HO1 HB1
          obtain ⟨c0, c1, c2, c3, c4, c5, c6, c7, c8, c9, c10, c11, c12⟩ := HB2.out
          rw [HK.out] at c1
          generalize hR : s.R = R at *
          have HM := hid (show (W2.alloc (.cells #[] 3)).ownsRow W2.heap.size 3 1 (.slice (some ⟨W2.heap.size, 0, none⟩) 0 0) 0 [] from World.ownsRow_made (e := 3) (size := 1) W2 #[] 0 (Nat.le_refl _) (by unfold maxLen; omega) rfl)
          have TW := hid ((Touch.refl [] W2).alloc (.cells #[] 3))
          have HRL := hid (show R.length ≤ 2000 from by have := HI.out.rl; rw [hR] at this; omega)
          have hrl := HRL.out
          go_wp2_with fail
          clear c0 c1 c2 c3 c4 c5 c6 c7 c8 c9 c10 c11 c12
          go_loopw [8, 98] (fun o i wr => ∃ (k m g c : Nat), i = .int .i64 k ∧ o = .slice (some ⟨g, 0, none⟩) m c ∧ k ≤ R.length ∧ Hid (m = (without (R.take k) e.ru).length) ∧ Hid (wr.ownsRow W2.heap.size 3 1 (.slice (some ⟨g, 0, none⟩) m c) m (ints (without (R.take k) e.ru))) ∧ Hid (Touch [] W2 wr)) (fun _ i _ => R.length - (intOf i).toNat)
          case atStart => exact ⟨0, 0, _, 0, rfl, rfl, Nat.zero_le _, hid rfl, HM, TW⟩
          case round =>
            obtain ⟨k, m, g, c, rfl, rfl, hk, HMK, HO9, HT9⟩ := hrel
            by_cases hlt2 : k < R.length
            · obtain ⟨x, hx⟩ : ∃ x, R[k]? = some x := ⟨_, List.getElem?_eq_getElem hlt2⟩
              have hcell : wr.cell? ⟨g0, k, none⟩ = some (.int .i64 x) := by
                obtain ⟨b', eb', hc'⟩ := ((Rd.of_own HO2.out.own).keep0 HT9.out).cell hlt2
                cases eb'
                rw [hc', ← (List.getElem?_eq_some_iff.1 hx).2]
              have c4 := (HB2.out.touch HT9.out).c4
              have hws := without_snoc (x := e.ru) k hx
              have hml : m ≤ k := by rw [HMK.out]; refine Nat.le_trans (without_le _ _) ?_; rw [List.length_take]; omega
              by_cases hxr : x = e.ru
              · rw [if_pos hxr] at hws
                have HWS := hid hws
                clear hws hx
                rw [hxr] at hcell
                go_wp2_with fail
                go_roundw
                case rel => exact ⟨k + 1, m, g, c, rfl, rfl, by omega, hid (by rw [HWS.out]; exact HMK.out), hid (by rw [HWS.out]; exact HO9.out), HT9⟩
                case measure => first | (simp [intOf]; done) | (simp [intOf]; omega)
              · rw [if_neg hxr] at hws
                have HWS := hid hws
                clear hws hx
                have hxb : (x == e.ru) = false := by simpa using hxr
                clear hxr
                have HR1 := hid (rd_one wr x)
                have t1 : Touch [] wr (wr.alloc (.cells #[.int .i64 x] 3)) := (Touch.refl [] wr).alloc _
                have HOW := hid (own_touch HO9.out t1 (fun _ _ h => (by cases h)))
                have HTW := hid (HT9.out.trans' t1)
                have HGB := hid (Un.owns_base HO9.out)
                have HSZ := hid HTW.out.size
                clear t1
                have HME := hid (show m + 1 = (without (R.take (k + 1)) e.ru).length by rw [HWS.out, List.length_append, ← HMK.out]; rfl)
                have HXE := hid (show ints (without (R.take k) e.ru) ++ ints [x] = ints (without (R.take (k + 1)) e.ru) by rw [HWS.out]; simp [ints])
                generalize ints (without (R.take k) e.ru) = xs at *
                clear HMK HO9
                go_wp2_with (at_builtin; refine wpList_append_rd rfl _ _ rfl W2.heap.size g m c xs rfl HOW.out _ [x] rfl HR1.out (by simp; omega) HSZ.out ?_; intro g' c' w' o' gr'; have HT8 := hid (touch_grownF HTW.out gr' HGB.out); rw [HXE.out] at o'; have HO8 := hid o'; clear o' gr' HOW HTW HR1)
                go_roundw
                case rel => exact ⟨k + 1, m + 1, g', c', rfl, rfl, by omega, HME, HO8, HT8⟩
                case measure => first | (simp [intOf]; done) | (simp [intOf]; omega)
            · obtain rfl : k = R.length := by omega
              rw [List.take_length] at HMK HO9
              have HBB := hid (show b + 1 ≤ W2.heap.size from HO2.out.blt)
              have HO7 := hid (HO2.out.list0 HT9.out (R' := without R e.ru) (g' := g) (c' := c) (by rw [← HMK.out]; exact own_base HO9.out HBB.out))
              have HB7 := hid (HB2.out.touch HT9.out)
              clear HO2 HB2 HO9 HM TW HT9 HBB
              obtain ⟨c0, c1, c2, c3, c4, c5, c6, c7, c8, c9, c10, c11, c12⟩ := HB7.out
              rw [HK.out] at c1
              have HR1 := hid (rd_one wr e.ru)
              have t1 : Touch [] wr (wr.alloc (.cells #[.int .i64 e.ru] 3)) := (Touch.refl [] wr).alloc _
              have HOA := hid (HO7.out.keep t1)
              have HGB := hid (Un.owns_base HO7.out.own)
              have HOW := hid HOA.out.own
              rw [← HMK.out] at HOW
              have HSZ := hid (show b + 1 ≤ (wr.alloc (.cells #[.int .i64 e.ru] 3)).heap.size from HOA.out.blt)
              have HXE := hid (show ints (without R e.ru) ++ ints [e.ru] = ints (without R e.ru ++ [e.ru]) by simp [ints])
              have HML := hid (show m + 1 = (without R e.ru ++ [e.ru]).length by rw [List.length_append, ← HMK.out]; rfl)
              have hml : m ≤ 2000 := by rw [HMK.out]; exact Nat.le_trans (without_le _ _) HRL.out
              clear t1 HO7
              go_upto_region 25 with (at_builtin; refine wpList_append_rd rfl _ _ rfl (b + 1) g m c (ints (without R e.ru)) rfl HOW.out _ [e.ru] rfl HR1.out (by simp; omega) HSZ.out ?_; intro g' c' W8 o' gr'; have HO8 := hid (HOA.out.list (x := g) (grown_touch gr') (by have := HGB.out; omega) (R' := without R e.ru ++ [e.ru]) (g' := g') (c' := c') (by rw [← HML.out, ← HXE.out]; exact o')); clear o' gr' HOW HOA HR1)
              clear c0 c1 c2 c3 c4 c5 c6 c7 c8 c9 c10 c11 c12 HB7
              have c26 := row_cell25 HO8.out.r1 (i := 26) (by omega) (by omega)
              rw [k1_ne (by omega)] at c26
              have f26 := HO8.out.r1.froz 26
              by_cases hmx : s.f 26 < ((m : Int) + 1)
              · have HMX := hid (show max (s.f 26) ((without R e.ru ++ [e.ru]).length : Nat) = (m : Int) + 1 from by rw [← HML.out]; omega)
                generalize s.f 26 = x26 at *
                go_wp2_with (refine wpList_st1 rfl _ _ rfl b 26 ((m : Int) + 1) x26 rfl rfl c26 f26 ?_; intro W9 hw9; have HO9 := hid (HO8.out.set (i := 26) (by omega) (by omega) hw9); clear hw9 c26 f26)
                go_roundw
                case rel => exact ⟨j + 1, g', c', rfl, by rw [HSN.out, HS2.out, HMX.out]; exact congrArg (fun z => Value.slice (some ⟨g', 0, none⟩) z c') HML.out, by omega, hid (by rw [HSN.out, HS2.out, HMX.out]; exact HO9.out)⟩
                case measure => first | (simp [intOf]; done) | (simp [intOf]; omega)
              · have HMX := hid (show max (s.f 26) ((without R e.ru ++ [e.ru]).length : Nat) = k1 s e 26 from by rw [← HML.out, k1_ne (by omega)]; omega)
                generalize s.f 26 = x26 at *
                go_wp2_with fail
                go_roundw
                case rel => exact ⟨j + 1, g', c', rfl, by rw [HSN.out, HS2.out]; exact congrArg (fun z => Value.slice (some ⟨g', 0, none⟩) z c') HML.out, by omega, hid (by rw [HSN.out, HS2.out, HMX.out, fset_self rfl]; exact HO8.out)⟩
                case measure => first | (simp [intOf]; done) | (simp [intOf]; omega)
        · by_cases hk5 : e.kd = 5
          · have hk := hk5
            clear hk5 hk2
            have HK := hid hk
            have HS5 := hid (show oS s e = ⟨inc (k1 s e) 19 6 e.fk, s.K, without s.R e.ru⟩ from (if_neg (by rw [hk]; decide)).trans ((if_neg (by rw [hk]; decide)).trans (if_pos hk)))
            rw [hk] at c1
            have b0 := HI.out.lo 5
            have b1 := HI.out.hi 5
            have HKF := hid (show k1 s e = fset s.f 5 (s.f 5 + 1) from by unfold k1; rw [show kk e.kd = 5 by rw [hk]; rfl])
            have hz := row_cell25 HO1.out.r1 (i := 5) (by omega) (by omega)
            have hf := HO1.out.r1.froz 5
            have HST := hid (show ∀ w2, w2 = W1.setCell ⟨b, 5, none⟩ (.int .i64 (s.f 5 + 1)) → Rn w w2 b kl (k1 s e) s.R g0 cap ∧ Ib w2 eb e from fun w2 hw2 => by
              have t2 : Touch [b] W1 w2 := by rw [hw2]; exact (Touch.refl _ _).setCell (Or.inl (by simp)) _
              exact ⟨by rw [HKF.out]; have := HO1.out.set (i := 5) (by omega) (by omega) hw2; exact this, ib_keep HB1.out t2 (by simp; have := HEB.out; omega)⟩)
            go_upto_region 9 with (refine wpList_st1 rfl _ _ rfl b 5 (s.f 5 + 1) (s.f 5) rfl rfl hz hf ?_; intro W2 hw2; obtain ⟨o2, b2⟩ := HST.out _ hw2; have HO2 := hid o2; have HB2 := hid b2; clear hw2 o2 b2 hz hf HST)
            clear c0 c1 c2 c3 c4 c5 c6 c7 c8 c9 c10 c11 c12 HO1 HB1
            by_cases h1 : 0 ≤ e.fk
            · by_cases h2 : e.fk ≤ 5
              · obtain ⟨c0, c1, c2, c3, c4, c5, c6, c7, c8, c9, c10, c11, c12⟩ := HB2.out
                rw [HK.out] at c1
                obtain ⟨p, hp⟩ : ∃ p : Nat, e.fk = (p : Int) := ⟨e.fk.toNat, by omega⟩
                have hpl : p < 6 := by omega
                have HG := hid (show inc (k1 s e) 19 6 e.fk = fset (k1 s e) (19 + p) (s.f (19 + p) + 1) from by unfold inc; rw [if_pos ⟨h1, by omega⟩, hp, show ((p : Int)).toNat = p by omega, k1_ne (by omega)])
                have b0 := HI.out.lo (19 + p)
                have b1 := HI.out.hi (19 + p)
                have HP := hid hp
                rw [hp] at c10
                clear hp
                have hz := row_cell25 HO2.out.r1 (i := (19 + p)) (by omega) (by omega)
                rw [k1_ne (by omega)] at hz
                have hf := HO2.out.r1.froz (19 + p)
                have HST := hid (show ∀ w2, w2 = W2.setCell ⟨b, (19 + p), none⟩ (.int .i64 (s.f (19 + p) + 1)) → Rn w w2 b kl (inc (k1 s e) 19 6 e.fk) s.R g0 cap ∧ Ib w2 eb e from fun w2 hw2 => by
                  have t2 : Touch [b] W2 w2 := by rw [hw2]; exact (Touch.refl _ _).setCell (Or.inl (by simp)) _
                  exact ⟨by rw [HG.out]; have := HO2.out.set (i := (19 + p)) (by omega) (by omega) hw2; exact this, ib_keep HB2.out t2 (by simp; have := HEB.out; omega)⟩)
                go_upto_region 14 with (refine wpList_st1 rfl _ _ rfl b (19 + p) (s.f (19 + p) + 1) (s.f (19 + p)) rfl rfl hz hf ?_; intro W3 hw2; obtain ⟨o2, b2⟩ := HST.out _ hw2; have HO3 := hid o2; have HB3 := hid b2; clear hw2 o2 b2 hz hf HST)
                clear c0 c1 c2 c3 c4 c5 c6 c7 c8 c9 c10 c11 c12 HO2 HB2
                obtain ⟨c0, c1, c2, c3, c4, c5, c6, c7, c8, c9, c10, c11, c12⟩ := HB3.out
                rw [HK.out] at c1
                generalize hR : s.R = R at *
                have HM := hid (show (W3.alloc (.cells #[] 3)).ownsRow W3.heap.size 3 1 (.slice (some ⟨W3.heap.size, 0, none⟩) 0 0) 0 [] from World.ownsRow_made (e := 3) (size := 1) W3 #[] 0 (Nat.le_refl _) (by unfold maxLen; omega) rfl)
                have TW := hid ((Touch.refl [] W3).alloc (.cells #[] 3))
                have HRL := hid (show R.length ≤ 2000 from by have := HI.out.rl; rw [hR] at this; omega)
                have hrl := HRL.out
                go_wp2_with fail
                clear c0 c1 c2 c3 c4 c5 c6 c7 c8 c9 c10 c11 c12
                go_loopw [8, 98] (fun o i wr => ∃ (k m g c : Nat), i = .int .i64 k ∧ o = .slice (some ⟨g, 0, none⟩) m c ∧ k ≤ R.length ∧ Hid (m = (without (R.take k) e.ru).length) ∧ Hid (wr.ownsRow W3.heap.size 3 1 (.slice (some ⟨g, 0, none⟩) m c) m (ints (without (R.take k) e.ru))) ∧ Hid (Touch [] W3 wr)) (fun _ i _ => R.length - (intOf i).toNat)
                case atStart => exact ⟨0, 0, _, 0, rfl, rfl, Nat.zero_le _, hid rfl, HM, TW⟩
                case round =>
                  obtain ⟨k, m, g, c, rfl, rfl, hk, HMK, HO9, HT9⟩ := hrel
                  by_cases hlt2 : k < R.length
                  · obtain ⟨x, hx⟩ : ∃ x, R[k]? = some x := ⟨_, List.getElem?_eq_getElem hlt2⟩
                    have hcell : wr.cell? ⟨g0, k, none⟩ = some (.int .i64 x) := by
                      obtain ⟨b', eb', hc'⟩ := ((Rd.of_own HO3.out.own).keep0 HT9.out).cell hlt2
                      cases eb'
                      rw [hc', ← (List.getElem?_eq_some_iff.1 hx).2]
                    have c4 := (HB3.out.touch HT9.out).c4
                    have hws := without_snoc (x := e.ru) k hx
                    have hml : m ≤ k := by rw [HMK.out]; refine Nat.le_trans (without_le _ _) ?_; rw [List.length_take]; omega
                    by_cases hxr : x = e.ru
                    · rw [if_pos hxr] at hws
                      have HWS := hid hws
                      clear hws hx
                      rw [hxr] at hcell
                      go_wp2_with fail
                      go_roundw
                      case rel => exact ⟨k + 1, m, g, c, rfl, rfl, by omega, hid (by rw [HWS.out]; exact HMK.out), hid (by rw [HWS.out]; exact HO9.out), HT9⟩
                      case measure => first | (simp [intOf]; done) | (simp [intOf]; omega)
                    · rw [if_neg hxr] at hws
                      have HWS := hid hws
                      clear hws hx
                      have hxb : (x == e.ru) = false := by simpa using hxr
                      clear hxr
                      have HR1 := hid (rd_one wr x)
                      have t1 : Touch [] wr (wr.alloc (.cells #[.int .i64 x] 3)) := (Touch.refl [] wr).alloc _
                      have HOW := hid (own_touch HO9.out t1 (fun _ _ h => (by cases h)))
                      have HTW := hid (HT9.out.trans' t1)
                      have HGB := hid (Un.owns_base HO9.out)
                      have HSZ := hid HTW.out.size
                      clear t1
                      have HME := hid (show m + 1 = (without (R.take (k + 1)) e.ru).length by rw [HWS.out, List.length_append, ← HMK.out]; rfl)
                      have HXE := hid (show ints (without (R.take k) e.ru) ++ ints [x] = ints (without (R.take (k + 1)) e.ru) by rw [HWS.out]; simp [ints])
                      generalize ints (without (R.take k) e.ru) = xs at *
                      clear HMK HO9
                      go_wp2_with (at_builtin; refine wpList_append_rd rfl _ _ rfl W3.heap.size g m c xs rfl HOW.out _ [x] rfl HR1.out (by simp; omega) HSZ.out ?_; intro g' c' w' o' gr'; have HT8 := hid (touch_grownF HTW.out gr' HGB.out); rw [HXE.out] at o'; have HO8 := hid o'; clear o' gr' HOW HTW HR1)
                      go_roundw
                      case rel => exact ⟨k + 1, m + 1, g', c', rfl, rfl, by omega, HME, HO8, HT8⟩
                      case measure => first | (simp [intOf]; done) | (simp [intOf]; omega)
                  · obtain rfl : k = R.length := by omega
                    rw [List.take_length] at HMK HO9
                    have HBB := hid (show b + 1 ≤ W3.heap.size from HO3.out.blt)
                    have HO7 := hid (HO3.out.list0 HT9.out (R' := without R e.ru) (g' := g) (c' := c) (by rw [← HMK.out]; exact own_base HO9.out HBB.out))
                    have HB7 := hid (HB3.out.touch HT9.out)
                    clear HO3 HB3 HO9 HM TW HT9 HBB
                    obtain ⟨c0, c1, c2, c3, c4, c5, c6, c7, c8, c9, c10, c11, c12⟩ := HB7.out
                    rw [HK.out] at c1
                    have c26 := row_cell25 HO7.out.r1 (i := 26) (by omega) (by omega)
                    rw [(inc_ne (by omega)).trans (k1_ne (by omega))] at c26
                    have hmo : ¬ s.f 26 < (m : Int) := by have := HMO.out; have := without_le R e.ru; rw [HMK.out]; omega
                    generalize s.f 26 = x26 at *
                    go_wp2_with fail
                    go_roundw
                    case rel => exact ⟨j + 1, g, c, rfl, by rw [HSN.out, HS5.out]; exact congrArg (fun z => Value.slice (some ⟨g, 0, none⟩) z c) HMK.out, by omega, hid (by rw [HSN.out, HS5.out]; exact HO7.out)⟩
                    case measure => first | (simp [intOf]; done) | (simp [intOf]; omega)
              · have HN := hid (show inc (k1 s e) 19 6 e.fk = k1 s e from if_neg (by omega))
                obtain ⟨c0, c1, c2, c3, c4, c5, c6, c7, c8, c9, c10, c11, c12⟩ := HB2.out
                rw [HK.out] at c1
                generalize hR : s.R = R at *
                have HM := hid (show (W2.alloc (.cells #[] 3)).ownsRow W2.heap.size 3 1 (.slice (some ⟨W2.heap.size, 0, none⟩) 0 0) 0 [] from World.ownsRow_made (e := 3) (size := 1) W2 #[] 0 (Nat.le_refl _) (by unfold maxLen; omega) rfl)
                have TW := hid ((Touch.refl [] W2).alloc (.cells #[] 3))
                have HRL := hid (show R.length ≤ 2000 from by have := HI.out.rl; rw [hR] at this; omega)
                have hrl := HRL.out
                go_wp2_with fail
                clear c0 c1 c2 c3 c4 c5 c6 c7 c8 c9 c10 c11 c12
                go_loopw [8, 98] (fun o i wr => ∃ (k m g c : Nat), i = .int .i64 k ∧ o = .slice (some ⟨g, 0, none⟩) m c ∧ k ≤ R.length ∧ Hid (m = (without (R.take k) e.ru).length) ∧ Hid (wr.ownsRow W2.heap.size 3 1 (.slice (some ⟨g, 0, none⟩) m c) m (ints (without (R.take k) e.ru))) ∧ Hid (Touch [] W2 wr)) (fun _ i _ => R.length - (intOf i).toNat)
                case atStart => exact ⟨0, 0, _, 0, rfl, rfl, Nat.zero_le _, hid rfl, HM, TW⟩
                case round =>
                  obtain ⟨k, m, g, c, rfl, rfl, hk, HMK, HO9, HT9⟩ := hrel
                  by_cases hlt2 : k < R.length
                  · obtain ⟨x, hx⟩ : ∃ x, R[k]? = some x := ⟨_, List.getElem?_eq_getElem hlt2⟩
                    have hcell : wr.cell? ⟨g0, k, none⟩ = some (.int .i64 x) := by
                      obtain ⟨b', eb', hc'⟩ := ((Rd.of_own HO2.out.own).keep0 HT9.out).cell hlt2
                      cases eb'
                      rw [hc', ← (List.getElem?_eq_some_iff.1 hx).2]
                    have c4 := (HB2.out.touch HT9.out).c4
                    have hws := without_snoc (x := e.ru) k hx
                    have hml : m ≤ k := by rw [HMK.out]; refine Nat.le_trans (without_le _ _) ?_; rw [List.length_take]; omega
                    by_cases hxr : x = e.ru
                    · rw [if_pos hxr] at hws
                      have HWS := hid hws
                      clear hws hx
                      rw [hxr] at hcell
                      go_wp2_with fail
                      go_roundw
                      case rel => exact ⟨k + 1, m, g, c, rfl, rfl, by omega, hid (by rw [HWS.out]; exact HMK.out), hid (by rw [HWS.out]; exact HO9.out), HT9⟩
                      case measure => first | (simp [intOf]; done) | (simp [intOf]; omega)
                    · rw [if_neg hxr] at hws
                      have HWS := hid hws
                      clear hws hx
                      have hxb : (x == e.ru) = false := by simpa using hxr
                      clear hxr
                      have HR1 := hid (rd_one wr x)
                      have t1 : Touch [] wr (wr.alloc (.cells #[.int .i64 x] 3)) := (Touch.refl [] wr).alloc _
                      have HOW := hid (own_touch HO9.out t1 (fun _ _ h => (by cases h)))
                      have HTW := hid (HT9.out.trans' t1)
                      have HGB := hid (Un.owns_base HO9.out)
                      have HSZ := hid HTW.out.size
                      clear t1
                      have HME := hid (show m + 1 = (without (R.take (k + 1)) e.ru).length by rw [HWS.out, List.length_append, ← HMK.out]; rfl)
                      have HXE := hid (show ints (without (R.take k) e.ru) ++ ints [x] = ints (without (R.take (k + 1)) e.ru) by rw [HWS.out]; simp [ints])
                      generalize ints (without (R.take k) e.ru) = xs at *
                      clear HMK HO9
                      go_wp2_with (at_builtin; refine wpList_append_rd rfl _ _ rfl W2.heap.size g m c xs rfl HOW.out _ [x] rfl HR1.out (by simp; omega) HSZ.out ?_; intro g' c' w' o' gr'; have HT8 := hid (touch_grownF HTW.out gr' HGB.out); rw [HXE.out] at o'; have HO8 := hid o'; clear o' gr' HOW HTW HR1)
                      go_roundw
                      case rel => exact ⟨k + 1, m + 1, g', c', rfl, rfl, by omega, HME, HO8, HT8⟩
                      case measure => first | (simp [intOf]; done) | (simp [intOf]; omega)
                  · obtain rfl : k = R.length := by omega
                    rw [List.take_length] at HMK HO9
                    have HBB := hid (show b + 1 ≤ W2.heap.size from HO2.out.blt)
                    have HO7 := hid (HO2.out.list0 HT9.out (R' := without R e.ru) (g' := g) (c' := c) (by rw [← HMK.out]; exact own_base HO9.out HBB.out))
                    have HB7 := hid (HB2.out.touch HT9.out)
                    clear HO2 HB2 HO9 HM TW HT9 HBB
                    obtain ⟨c0, c1, c2, c3, c4, c5, c6, c7, c8, c9, c10, c11, c12⟩ := HB7.out
                    rw [HK.out] at c1
                    have c26 := row_cell25 HO7.out.r1 (i := 26) (by omega) (by omega)
                    rw [k1_ne (by omega)] at c26
                    have hmo : ¬ s.f 26 < (m : Int) := by have := HMO.out; have := without_le R e.ru; rw [HMK.out]; omega
                    generalize s.f 26 = x26 at *
                    go_wp2_with fail
                    go_roundw
                    case rel => exact ⟨j + 1, g, c, rfl, by rw [HSN.out, HS5.out]; exact congrArg (fun z => Value.slice (some ⟨g, 0, none⟩) z c) HMK.out, by omega, hid (by rw [HSN.out, HS5.out]; show Rn w _ b kl (inc (k1 s e) 19 6 e.fk) _ _ _; rw [HN.out]; exact HO7.out)⟩
                    case measure => first | (simp [intOf]; done) | (simp [intOf]; omega)
            · have HN := hid (show inc (k1 s e) 19 6 e.fk = k1 s e from if_neg (by omega))
              obtain ⟨c0, c1, c2, c3, c4, c5, c6, c7, c8, c9, c10, c11, c12⟩ := HB2.out
              rw [HK.out] at c1
              generalize hR : s.R = R at *
              have HM := hid (show (W2.alloc (.cells #[] 3)).ownsRow W2.heap.size 3 1 (.slice (some ⟨W2.heap.size, 0, none⟩) 0 0) 0 [] from World.ownsRow_made (e := 3) (size := 1) W2 #[] 0 (Nat.le_refl _) (by unfold maxLen; omega) rfl)
              have TW := hid ((Touch.refl [] W2).alloc (.cells #[] 3))
              have HRL := hid (show R.length ≤ 2000 from by have := HI.out.rl; rw [hR] at this; omega)
              have hrl := HRL.out
              go_wp2_with fail
              clear c0 c1 c2 c3 c4 c5 c6 c7 c8 c9 c10 c11 c12
              go_loopw [8, 98] (fun o i wr => ∃ (k m g c : Nat), i = .int .i64 k ∧ o = .slice (some ⟨g, 0, none⟩) m c ∧ k ≤ R.length ∧ Hid (m = (without (R.take k) e.ru).length) ∧ Hid (wr.ownsRow W2.heap.size 3 1 (.slice (some ⟨g, 0, none⟩) m c) m (ints (without (R.take k) e.ru))) ∧ Hid (Touch [] W2 wr)) (fun _ i _ => R.length - (intOf i).toNat)
              case atStart => exact ⟨0, 0, _, 0, rfl, rfl, Nat.zero_le _, hid rfl, HM, TW⟩
              case round =>
                obtain ⟨k, m, g, c, rfl, rfl, hk, HMK, HO9, HT9⟩ := hrel
                by_cases hlt2 : k < R.length
                · obtain ⟨x, hx⟩ : ∃ x, R[k]? = some x := ⟨_, List.getElem?_eq_getElem hlt2⟩
                  have hcell : wr.cell? ⟨g0, k, none⟩ = some (.int .i64 x) := by
                    obtain ⟨b', eb', hc'⟩ := ((Rd.of_own HO2.out.own).keep0 HT9.out).cell hlt2
                    cases eb'
                    rw [hc', ← (List.getElem?_eq_some_iff.1 hx).2]
                  have c4 := (HB2.out.touch HT9.out).c4
                  have hws := without_snoc (x := e.ru) k hx
                  have hml : m ≤ k := by rw [HMK.out]; refine Nat.le_trans (without_le _ _) ?_; rw [List.length_take]; omega
                  by_cases hxr : x = e.ru
                  · rw [if_pos hxr] at hws
                    have HWS := hid hws
                    clear hws hx
                    rw [hxr] at hcell
                    go_wp2_with fail
                    go_roundw
                    case rel => exact ⟨k + 1, m, g, c, rfl, rfl, by omega, hid (by rw [HWS.out]; exact HMK.out), hid (by rw [HWS.out]; exact HO9.out), HT9⟩
                    case measure => first | (simp [intOf]; done) | (simp [intOf]; omega)
                  · rw [if_neg hxr] at hws
                    have HWS := hid hws
                    clear hws hx
                    have hxb : (x == e.ru) = false := by simpa using hxr
                    clear hxr
                    have HR1 := hid (rd_one wr x)
                    have t1 : Touch [] wr (wr.alloc (.cells #[.int .i64 x] 3)) := (Touch.refl [] wr).alloc _
                    have HOW := hid (own_touch HO9.out t1 (fun _ _ h => (by cases h)))
                    have HTW := hid (HT9.out.trans' t1)
                    have HGB := hid (Un.owns_base HO9.out)
                    have HSZ := hid HTW.out.size
                    clear t1
                    have HME := hid (show m + 1 = (without (R.take (k + 1)) e.ru).length by rw [HWS.out, List.length_append, ← HMK.out]; rfl)
                    have HXE := hid (show ints (without (R.take k) e.ru) ++ ints [x] = ints (without (R.take (k + 1)) e.ru) by rw [HWS.out]; simp [ints])
                    generalize ints (without (R.take k) e.ru) = xs at *
                    clear HMK HO9
                    go_wp2_with (at_builtin; refine wpList_append_rd rfl _ _ rfl W2.heap.size g m c xs rfl HOW.out _ [x] rfl HR1.out (by simp; omega) HSZ.out ?_; intro g' c' w' o' gr'; have HT8 := hid (touch_grownF HTW.out gr' HGB.out); rw [HXE.out] at o'; have HO8 := hid o'; clear o' gr' HOW HTW HR1)
                    go_roundw
                    case rel => exact ⟨k + 1, m + 1, g', c', rfl, rfl, by omega, HME, HO8, HT8⟩
                    case measure => first | (simp [intOf]; done) | (simp [intOf]; omega)
                · obtain rfl : k = R.length := by omega
                  rw [List.take_length] at HMK HO9
                  have HBB := hid (show b + 1 ≤ W2.heap.size from HO2.out.blt)
                  have HO7 := hid (HO2.out.list0 HT9.out (R' := without R e.ru) (g' := g) (c' := c) (by rw [← HMK.out]; exact own_base HO9.out HBB.out))
                  have HB7 := hid (HB2.out.touch HT9.out)
                  clear HO2 HB2 HO9 HM TW HT9 HBB
                  obtain ⟨c0, c1, c2, c3, c4, c5, c6, c7, c8, c9, c10, c11, c12⟩ := HB7.out
                  rw [HK.out] at c1
                  have c26 := row_cell25 HO7.out.r1 (i := 26) (by omega) (by omega)
                  rw [k1_ne (by omega)] at c26
                  have hmo : ¬ s.f 26 < (m : Int) := by have := HMO.out; have := without_le R e.ru; rw [HMK.out]; omega
                  generalize s.f 26 = x26 at *
                  go_wp2_with fail
                  go_roundw
                  case rel => exact ⟨j + 1, g, c, rfl, by rw [HSN.out, HS5.out]; exact congrArg (fun z => Value.slice (some ⟨g, 0, none⟩) z c) HMK.out, by omega, hid (by rw [HSN.out, HS5.out]; show Rn w _ b kl (inc (k1 s e) 19 6 e.fk) _ _ _; rw [HN.out]; exact HO7.out)⟩
                  case measure => first | (simp [intOf]; done) | (simp [intOf]; omega)
          · have HS0 := hid (show oS s e = ⟨k1 s e, s.K, s.R⟩ from (if_neg hk).trans ((if_neg hk2).trans (if_neg hk5)))
            have h1b : (e.kd == 1) = false := by simpa using hk
            have h2b : (e.kd == 2) = false := by simpa using hk2
            have h5b : (e.kd == 5) = false := by simpa using hk5
            by_cases hq1 : 1 ≤ e.kd
            · by_cases hq2 : e.kd ≤ 11
              · obtain ⟨p, hp⟩ : ∃ p : Nat, e.kd = (p : Int) := ⟨e.kd.toNat, by omega⟩
                have hpl : p ≤ 11 := by omega
                have hp1 : 1 ≤ p := by omega
                have b0 := HI.out.lo p
                have b1 := HI.out.hi p
                have HP := hid hp
                rw [hp] at c1 h1b h2b h5b
                clear hk hk2 hk5 hq1 hq2
                have hpz : (0 : Int) ≤ (p : Int) := by omega
                have hpz1 : (1 : Int) ≤ (p : Int) := by omega
                have hpz2 : (p : Int) ≤ 11 := by omega
                clear hp
                have HKF := hid (show k1 s e = fset s.f p (s.f p + 1) from by unfold k1; rw [show kk e.kd = p by rw [HP.out]; unfold kk; rw [if_pos (by omega)]; omega])
                have hz := row_cell25 HO1.out.r1 (i := p) (by omega) (by omega)
                have hf := HO1.out.r1.froz p
                have HST := hid (show ∀ w2, w2 = W1.setCell ⟨b, p, none⟩ (.int .i64 (s.f p + 1)) → Rn w w2 b kl (k1 s e) s.R g0 cap ∧ Ib w2 eb e from fun w2 hw2 => by
                  have t2 : Touch [b] W1 w2 := by rw [hw2]; exact (Touch.refl _ _).setCell (Or.inl (by simp)) _
                  exact ⟨by rw [HKF.out]; have := HO1.out.set (i := p) (by omega) (by omega) hw2; exact this, ib_keep HB1.out t2 (by simp; have := HEB.out; omega)⟩)
                go_upto_region 9 with (refine wpList_st1 rfl _ _ rfl b p (s.f p + 1) (s.f p) rfl rfl hz hf ?_; intro W2 hw2; obtain ⟨o2, b2⟩ := HST.out _ hw2; have HO2 := hid o2; have HB2 := hid b2; clear hw2 o2 b2 hz hf HST)
                clear c0 c1 c2 c3 c4 c5 c6 c7 c8 c9 c10 c11 c12 HO1 HB1
                obtain ⟨c0, c1, c2, c3, c4, c5, c6, c7, c8, c9, c10, c11, c12⟩ := HB2.out
                rw [HP.out] at c1
                have c26 := row_cell25 HO2.out.r1 (i := 26) (by omega) (by omega)
                rw [k1_ne (by omega)] at c26
                have hmo := HMO.out
                generalize s.f 26 = x26 at *
                go_wp2_with fail
                go_roundw
                case rel => exact ⟨j + 1, g0, cap, rfl, by rw [HSN.out, HS0.out], by omega, hid (by rw [HSN.out, HS0.out]; exact HO2.out)⟩
                case measure => first | (simp [intOf]; done) | (simp [intOf]; omega)
              · have b0 := HI.out.lo 0
                have b1 := HI.out.hi 0
                have HKK := hid (show kk e.kd = 0 from by unfold kk; rw [if_neg (by omega)])
                clear hk hk2 hk5
                have HKF := hid (show k1 s e = fset s.f 0 (s.f 0 + 1) from by unfold k1; rw [HKK.out])
                have hz := row_cell25 HO1.out.r1 (i := 0) (by omega) (by omega)
                have hf := HO1.out.r1.froz 0
                have HST := hid (show ∀ w2, w2 = W1.setCell ⟨b, 0, none⟩ (.int .i64 (s.f 0 + 1)) → Rn w w2 b kl (k1 s e) s.R g0 cap ∧ Ib w2 eb e from fun w2 hw2 => by
                  have t2 : Touch [b] W1 w2 := by rw [hw2]; exact (Touch.refl _ _).setCell (Or.inl (by simp)) _
                  exact ⟨by rw [HKF.out]; have := HO1.out.set (i := 0) (by omega) (by omega) hw2; exact this, ib_keep HB1.out t2 (by simp; have := HEB.out; omega)⟩)
                go_upto_region 9 with (refine wpList_st1 rfl _ _ rfl b 0 (s.f 0 + 1) (s.f 0) rfl rfl hz hf ?_; intro W2 hw2; obtain ⟨o2, b2⟩ := HST.out _ hw2; have HO2 := hid o2; have HB2 := hid b2; clear hw2 o2 b2 hz hf HST)
                clear c0 c1 c2 c3 c4 c5 c6 c7 c8 c9 c10 c11 c12 HO1 HB1
                obtain ⟨c0, c1, c2, c3, c4, c5, c6, c7, c8, c9, c10, c11, c12⟩ := HB2.out
                have c26 := row_cell25 HO2.out.r1 (i := 26) (by omega) (by omega)
                rw [k1_ne (by omega)] at c26
                have hmo := HMO.out
                generalize s.f 26 = x26 at *
                go_wp2_with fail
                go_roundw
                case rel => exact ⟨j + 1, g0, cap, rfl, by rw [HSN.out, HS0.out], by omega, hid (by rw [HSN.out, HS0.out]; exact HO2.out)⟩
                case measure => first | (simp [intOf]; done) | (simp [intOf]; omega)
            · have b0 := HI.out.lo 0
              have b1 := HI.out.hi 0
              have HKK := hid (show kk e.kd = 0 from by unfold kk; rw [if_neg (by omega)])
              clear hk hk2 hk5
              have HKF := hid (show k1 s e = fset s.f 0 (s.f 0 + 1) from by unfold k1; rw [HKK.out])
              have hz := row_cell25 HO1.out.r1 (i := 0) (by omega) (by omega)
              have hf := HO1.out.r1.froz 0
              have HST := hid (show ∀ w2, w2 = W1.setCell ⟨b, 0, none⟩ (.int .i64 (s.f 0 + 1)) → Rn w w2 b kl (k1 s e) s.R g0 cap ∧ Ib w2 eb e from fun w2 hw2 => by
                have t2 : Touch [b] W1 w2 := by rw [hw2]; exact (Touch.refl _ _).setCell (Or.inl (by simp)) _
                exact ⟨by rw [HKF.out]; have := HO1.out.set (i := 0) (by omega) (by omega) hw2; exact this, ib_keep HB1.out t2 (by simp; have := HEB.out; omega)⟩)
              go_upto_region 9 with (refine wpList_st1 rfl _ _ rfl b 0 (s.f 0 + 1) (s.f 0) rfl rfl hz hf ?_; intro W2 hw2; obtain ⟨o2, b2⟩ := HST.out _ hw2; have HO2 := hid o2; have HB2 := hid b2; clear hw2 o2 b2 hz hf HST)
              clear c0 c1 c2 c3 c4 c5 c6 c7 c8 c9 c10 c11 c12 HO1 HB1
              obtain ⟨c0, c1, c2, c3, c4, c5, c6, c7, c8, c9, c10, c11, c12⟩ := HB2.out
              have c26 := row_cell25 HO2.out.r1 (i := 26) (by omega) (by omega)
              rw [k1_ne (by omega)] at c26
              have hmo := HMO.out
              generalize s.f 26 = x26 at *
              go_wp2_with fail
              go_roundw
              case rel => exact ⟨j + 1, g0, cap, rfl, by rw [HSN.out, HS0.out], by omega, hid (by rw [HSN.out, HS0.out]; exact HO2.out)⟩
              case measure => first | (simp [intOf]; done) | (simp [intOf]; omega)
    · obtain rfl : j = n := by omega
      have HO := HJ.out
      rw [← HN.out, List.take_length] at HO
      have HM := hid HO
      have HFE := hid (show fset (oL L).f 25 (kl : Int) = ofL L from by unfold ofL; rw [HKE.out])
      clear HO HJ
      have HM1 := hid (show Row wr b 27 (ofL L) 30 from by rw [← HFE.out]; exact HM.out.r1)
      go_wp2_with (first | (refine wpList_loadT big30 rfl _ rfl b (ic 27 (ofL L)) 30 (0, 0) rfl HM1.out (ic_size _ _) ?_) | (refine wpList_storeT big30 rfl _ _ rfl w.heap.size (ic 27 z0) (ic 27 (ofL L)) 30 rfl rfl HM.out.r0 (ic_size _ _) (ic_size _ _) ic_one ?_; intro w5 h5 t5 s5; have H5 := hid h5; have T5 := hid (tl3 w HM.out.t t5); clear h5 t5 s5))
      exact bodyPost_ret (v := .agg (ic 27 (ofL L))) (res_cell (fn := Try.f9) (p := 2) rfl big30 _ rfl H5.out (ic_size _ _)) rfl ⟨rfl, T5.out⟩
end Go.Proofs.Ytibgfkjhohgkhaa.Ty
