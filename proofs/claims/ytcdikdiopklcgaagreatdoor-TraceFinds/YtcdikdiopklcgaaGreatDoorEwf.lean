/- What a function that is handed to each gathers: places of events; the conditions are that each states. -/
import Derived.Test.YtcdikdiopklcgaaGreatDoorEwb
import Derived.Test.YtcdikdiopklcgaaGreatDoorEvm
namespace Go.Proofs.YtcdikdiopklcgaaGreatDoor.Tr
open Go.RowKit Go.Sort Go.Shelf Go.Maps Go.ChangeMaps
set_option linter.unusedVariables false
set_option linter.unusedSimpArgs false
/-- places of the events of which P holds -/
def plc (P : Ez → Bool) (L : List Ez) : List Int := L.zipIdx.filterMap fun p => if P p.1 then some (p.2 : Int) else none
theorem plc_snoc (P : Ez → Bool) (M : List Ez) (e : Ez) : plc P (M ++ [e]) = plc P M ++ (if P e then [(M.length : Int)] else []) := by
  unfold plc
  rw [List.zipIdx_append, List.filterMap_append]
  congr 1
  cases h : P e <;> simp [h]
theorem plc_take (P : Ez → Bool) (L : List Ez) (i : Nat) (e : Ez) (h : L[i]? = some e) : plc P (L.take (i + 1)) = plc P (L.take i) ++ (if P e then [(i : Int)] else []) := by
  obtain ⟨hi, he⟩ := List.getElem?_eq_some_iff.1 h
  rw [List.take_succ_eq_append_getElem hi, he, plc_snoc, List.length_take, Nat.min_eq_left (by omega)]
theorem plc_len (P : Ez → Bool) (L : List Ez) : (plc P L).length ≤ L.length := by
  unfold plc
  exact Nat.le_trans (List.length_filterMap_le _ _) (by simp)
/-- what is gathered in a box -/
structure Cj (w0 : World) (kc : Nat) (st et : TypeId) (k n : Nat) (C : List Value) (w' : World) : Prop where
  t : Touch [] w0 w'
  bx : ∃ u, w'.heap[kc]? = some (.cells #[u] st (0, 0)) ∧ w'.ownsRow w0.heap.size et k u n C
  lc : w0.heap.size ≤ kc
section
variable {w0 w' w2 : World} {kc k n m : Nat} {st et : TypeId} {C cs : List Value}
theorem Cj.touch (h : Cj w0 kc st et k n C w') (t : Touch [] w' w2) : Cj w0 kc st et k n C w2 := by
  obtain ⟨u, h1, h2⟩ := h.bx
  exact ⟨h.t.trans' t, ⟨u, t.keep h1 (by simp), own_touch h2 t (by simp)⟩, h.lc⟩
theorem Cj.new (w0 : World) (st et : TypeId) (k : Nat) : Cj w0 w0.heap.size st et k 0 [] (w0.alloc (.cells #[.slice none 0 0] st)) :=
  ⟨(Touch.refl [] w0).alloc _, ⟨_, heap_alloc_new w0 _, ⟨by simp, Or.inl ⟨rfl, rfl⟩⟩⟩, Nat.le_refl _⟩
theorem Cj.app {u u' : Value} {W : World} (h : Cj w0 kc st et k n C w') (hst : et ≠ st) (hu : w'.heap[kc]? = some (.cells #[u] st (0, 0))) (ho : w'.ownsRow w0.heap.size et k u n C) (tW : Touch [] w' W) (o : w2.ownsRow w0.heap.size et k u' m cs) (g : W.grownBy w2 u.ownBlock) :
    Cj w0 kc st et k m cs (w2.setCell ⟨kc, 0, none⟩ u') := by
  have hW := tW.keep hu (by simp)
  have oW := own_touch ho tW (by simp)
  have tg : Touch u.ownBlock.toList W w2 := (Touch.refl _ _).grown g (fun q hq => Or.inl (by simp [hq]))
  have h2 := tg.keep hW (fun hm => kind_ne oW hW hst (Option.mem_toList.1 hm))
  refine ⟨(touch_grown (h.t.trans' tW) g oW (Nat.le_refl _)).setCell (Or.inr h.lc) _, ⟨u', ?_, own_keep o (fun q hq => Below.heap_setCell _ _ _ _ (fun e => kind_ne o h2 hst (by have e1 : q = kc := e; rw [← e1]; exact hq)))⟩, h.lc⟩
  have := bset (i := 0) h2 u'
  simpa using this
end
set_option maxHeartbeats 1000000 in
theorem each_where {w : World} {B b : Nat} {v : Value} {L : List Ez} (x0 x1 : Value) (J : Nat → World → Prop) (E : World → Prop) (h0 : J 0 w) (hT : ∀ i w', J i w' → Tq w' B b v L) (hA : ∀ i w' o, J i w' → J i (w'.alloc o))
    (hs : ∀ i e w', L[i]? = some e → J i w' → Calls Tryz.prog 44 #[.int .i64 i, e.val, x0, x1] w' fun r w'' => EachR (J (i + 1)) E r w'') (hE : ∀ w', J L.length w' → E w') :
    Calls Tryz.prog 31 #[PT b, .func (.func 44) #[] #[x0, x1]] w fun r w' => r = .returned (.tuple #[]) ∧ E w' := by
  have hq := hT 0 w h0
  have HT := hid hT
  have HA := hid hA
  have HE := hid hE
  have HS := hid hs
  have H0 := hid h0
  have hle := hq.le
  obtain ⟨a, c, rfl⟩ := own_form hq.ow
  have cb := cell_at hq.bx (j := 0) rfl
  obtain ⟨n, hn⟩ : ∃ n, L.length = n := ⟨_, rfl⟩
  have HN := hid hn
  rw [hn] at cb hle
  obtain ⟨NL, hNL⟩ : ∃ NL : Int, (n : Int) = NL := ⟨_, rfl⟩
  have hNb : NL ≤ 1048576 := by omega
  clear h0 hT hA hs hE hq hn
  unfold PT
  go_enter Tryz.func31, Tryz.ntmps31
  go_wp2_with fail
  go_loopw [13] (fun i wr => ∃ j : Nat, i = .int .i64 j ∧ j ≤ n ∧ Hid (J j wr)) (fun i _ => n - (intOf i).toNat)
  case atStart => exact ⟨0, rfl, Nat.zero_le _, H0.out⟩
  case round =>
    obtain ⟨j, rfl, hj, HJ⟩ := hrel
    clear H0 cb
    by_cases hlt : j < n
    · have hz : (j : Int) < NL := by omega
      obtain ⟨e, he⟩ : ∃ e, L[j]? = some e := ⟨_, List.getElem?_eq_getElem (by rw [HN.out]; exact hlt)⟩
      have hq := HT.out _ _ HJ.out
      obtain ⟨g0, c', e1, _, hg⟩ := own_some hq.ow (by rw [HN.out]; omega)
      have HR := rc_own (e1 ▸ hq.ow) he
      obtain ⟨c0, c1, c2, c3, c4, c5, c6, c7, c8, c9, c10, c11, c12⟩ := HR
      simp only [Value.slice.injEq] at e1
      obtain ⟨rfl, -, rfl⟩ := e1
      have HC := hid (fun o => HS.out j e _ he (HA.out j wr o HJ.out))
      clear he hq
      unfold Ez.val at HC
      go_wp2_with fail
      refine (HC.out _).mono ?_
      rintro r w2 h2
      rcases h2 with ⟨rfl, h2⟩ | ⟨rfl, h2⟩
      · have H2 := hid h2
        clear h2 HC c0 c1 c2 c3 c4 c5 c6 c7 c8 c9 c10 c11 c12
        go_wp2_with fail
        go_roundw
        case rel => exact ⟨j + 1, by go_num, by omega, H2⟩
        case measure => simp [intOf]; omega
      · have H2 := hid h2
        clear h2 HC c0 c1 c2 c3 c4 c5 c6 c7 c8 c9 c10 c11 c12
        go_wp2_with fail
        first | go_end0 | refine bodyPost_ret (results_none rfl _ _ _) rfl ?_
        exact ⟨rfl, H2.out⟩
    · have hz : ¬ (j : Int) < NL := by omega
      have e1 : j = L.length := by rw [HN.out]; omega
      have H2 : Hid (E wr) := HE.out _ (e1 ▸ HJ.out)
      clear e1 HJ
      go_wp2_with fail
      first | go_end0 | refine bodyPost_ret (results_none rfl _ _ _) rfl ?_
      exact ⟨rfl, H2.out⟩
set_option maxHeartbeats 1000000 in
theorem where1_run {w0 w : World} {kc n : Nat} {C : List Value} {kf : Nat} (x0 : Value) (P : Bool) (h : Cj w0 kc 23 3 1 n C w) (hn : n ≤ 1048576) (hkf : w0.cell? ⟨kf, 0, none⟩ = some (.func (.func 26) #[] #[x0])) (e : Ez)
    (hF : ∀ w', Touch [] w0 w' → Calls Tryz.prog 26 #[e.val, x0] w' fun r w'' => r = .returned (.bool P) ∧ Touch [] w' w'') (i : Nat) :
    Calls Tryz.prog 44 #[.int .i64 i, e.val, PT kf, PT kc] w fun r w' => r = .returned (.bool true) ∧ Cj w0 kc 23 3 1 (n + if P then 1 else 0) (C ++ if P then [.int .i64 i] else []) w' := by
  have H := hid h
  have HF := hid hF
  have HT : Hid (Touch [] w (w.alloc (.cells #[.int .i64 e.at_, .int .i64 e.kd, .int .i64 e.cl, .int .i64 e.ca, .int .i64 e.ru, .int .i64 e.ge, .int .i64 e.ho, .int .u16 e.sp, .string e.nm, .int .i64 e.va, .int .i64 e.fk, .int .i64 e.fc, .int .i64 e.fr] 40))) := (Touch.refl [] w).alloc _
  have HK : Hid (∀ w', Touch [] w0 w' → w'.cell? ⟨kf, 0, none⟩ = some (.func (.func 26) #[] #[x0])) := hid (fun w' t => tcell t hkf)
  have HL := hid hn
  have k0 := HK.out _ (H.out.t.trans' HT.out)
  obtain ⟨V, hV⟩ : ∃ V, V = w.alloc (.cells #[.int .i64 e.at_, .int .i64 e.kd, .int .i64 e.cl, .int .i64 e.ca, .int .i64 e.ru, .int .i64 e.ge, .int .i64 e.ho, .int .u16 e.sp, .string e.nm, .int .i64 e.va, .int .i64 e.fk, .int .i64 e.fc, .int .i64 e.fr] 40) := ⟨_, rfl⟩
  obtain ⟨c0, c1, c2, c3, c4, c5, c6, c7, c8, c9, c10, c11, c12⟩ : Ib V w.heap.size e := by rw [hV]; exact Ib.new w e 40
  rw [← hV] at HT k0
  clear h hF hkf hn
  unfold PT Ez.val at *
  go_enter Tryz.func44, Tryz.ntmps44
  go_upto_region 1 with fail
  rw [← hV]
  clear hV
  go_wp2_with fail
  refine (HF.out _ (H.out.t.trans' HT.out)).mono ?_
  rintro r w1 ⟨rfl, t1⟩
  have H1 := hid (H.out.touch (HT.out.trans' t1))
  clear t1 HT k0 c0 c1 c2 c3 c4 c5 c6 c7 c8 c9 c10 c11 c12 H HF HK
  cases P with
  | false =>
    go_wp2_with fail
    go_ret
    exact ⟨rfl, by simpa using H1.out⟩
  | true =>
    obtain ⟨u, hu, ho⟩ := H1.out.bx
    obtain ⟨a, c, rfl⟩ := own_form ho
    have HU := hid hu
    have HO := hid ho
    have u0 := cell_at hu (j := 0) rfl
    have hz := block_lt hu
    have TN : Hid (Touch [] w1 (w1.alloc (.cells #[.int .i64 i] 3))) := (Touch.refl [] w1).alloc _
    clear hu ho
    go_wp2_with (at_builtin; refine wpList_append_rs rfl _ _ 23 3 rfl _ 1 8 info3 Tryz.underlying23 rfl (by decide) w0.heap.size (.slice a n c) n C rfl (own_touch HO.out TN.out (by simp)) (.slice (some ⟨w1.heap.size, 0, none⟩) 1 1) 1 [.int .i64 i] rfl (Rs.new w1 #[.int .i64 i] 3 1 rfl) (by simp [Value.oneCell']) (by have := HL.out; unfold maxLen; omega) (by have := HL.out; omega) (Nat.le_trans H1.out.t.size TN.out.size) ?_; intro v6 w6 o6 g6 p6; obtain ⟨a6, c6, e6⟩ := own_form o6; subst e6; have A6 := hid (H1.out.app (by decide) HU.out HO.out TN.out o6 g6); have z6 : w6.frozen? ⟨kc, 0, none⟩ = false := (froz_at (((Touch.refl _ _).grown g6 (fun q hq => Or.inl (by simp [hq]))).keep (F := (Value.slice a n c).ownBlock.toList) (TN.out.keep HU.out (by simp)) (fun hm => kind_ne HO.out HU.out (by decide) (Option.mem_toList.1 hm))) 0); have y6 := cell_at ((((Touch.refl _ _).grown g6 (fun q hq => Or.inl (by simp [hq]))).keep (F := (Value.slice a n c).ownBlock.toList) (TN.out.keep HU.out (by simp)) (fun hm => kind_ne HO.out HU.out (by decide) (Option.mem_toList.1 hm)))) (j := 0) rfl; clear o6 g6 p6)
    go_ret
    exact ⟨rfl, A6.out⟩
set_option maxHeartbeats 1000000 in
theorem where1_kind {w0 w : World} {kc n : Nat} {C : List Value} {kf : Nat} (x0 : Value) (P : Bool) (h : Cj w0 kc 23 3 1 n C w) (hn : n ≤ 1048576) (hkf : w0.cell? ⟨kf, 0, none⟩ = some (.func (.func 25) #[] #[x0])) (e : Ez)
    (hF : ∀ w', Touch [] w0 w' → Calls Tryz.prog 25 #[e.val, x0] w' fun r w'' => r = .returned (.bool P) ∧ Touch [] w' w'') (i : Nat) :
    Calls Tryz.prog 44 #[.int .i64 i, e.val, PT kf, PT kc] w fun r w' => r = .returned (.bool true) ∧ Cj w0 kc 23 3 1 (n + if P then 1 else 0) (C ++ if P then [.int .i64 i] else []) w' := by
  have H := hid h
  have HF := hid hF
  have HT : Hid (Touch [] w (w.alloc (.cells #[.int .i64 e.at_, .int .i64 e.kd, .int .i64 e.cl, .int .i64 e.ca, .int .i64 e.ru, .int .i64 e.ge, .int .i64 e.ho, .int .u16 e.sp, .string e.nm, .int .i64 e.va, .int .i64 e.fk, .int .i64 e.fc, .int .i64 e.fr] 40))) := (Touch.refl [] w).alloc _
  have HK : Hid (∀ w', Touch [] w0 w' → w'.cell? ⟨kf, 0, none⟩ = some (.func (.func 25) #[] #[x0])) := hid (fun w' t => tcell t hkf)
  have HL := hid hn
  have k0 := HK.out _ (H.out.t.trans' HT.out)
  obtain ⟨V, hV⟩ : ∃ V, V = w.alloc (.cells #[.int .i64 e.at_, .int .i64 e.kd, .int .i64 e.cl, .int .i64 e.ca, .int .i64 e.ru, .int .i64 e.ge, .int .i64 e.ho, .int .u16 e.sp, .string e.nm, .int .i64 e.va, .int .i64 e.fk, .int .i64 e.fc, .int .i64 e.fr] 40) := ⟨_, rfl⟩
  obtain ⟨c0, c1, c2, c3, c4, c5, c6, c7, c8, c9, c10, c11, c12⟩ : Ib V w.heap.size e := by rw [hV]; exact Ib.new w e 40
  rw [← hV] at HT k0
  clear h hF hkf hn
  unfold PT Ez.val at *
  go_enter Tryz.func44, Tryz.ntmps44
  go_upto_region 1 with fail
  rw [← hV]
  clear hV
  go_wp2_with fail
  refine (HF.out _ (H.out.t.trans' HT.out)).mono ?_
  rintro r w1 ⟨rfl, t1⟩
  have H1 := hid (H.out.touch (HT.out.trans' t1))
  clear t1 HT k0 c0 c1 c2 c3 c4 c5 c6 c7 c8 c9 c10 c11 c12 H HF HK
  cases P with
  | false =>
    go_wp2_with fail
    go_ret
    exact ⟨rfl, by simpa using H1.out⟩
  | true =>
    obtain ⟨u, hu, ho⟩ := H1.out.bx
    obtain ⟨a, c, rfl⟩ := own_form ho
    have HU := hid hu
    have HO := hid ho
    have u0 := cell_at hu (j := 0) rfl
    have hz := block_lt hu
    have TN : Hid (Touch [] w1 (w1.alloc (.cells #[.int .i64 i] 3))) := (Touch.refl [] w1).alloc _
    clear hu ho
    go_wp2_with (at_builtin; refine wpList_append_rs rfl _ _ 23 3 rfl _ 1 8 info3 Tryz.underlying23 rfl (by decide) w0.heap.size (.slice a n c) n C rfl (own_touch HO.out TN.out (by simp)) (.slice (some ⟨w1.heap.size, 0, none⟩) 1 1) 1 [.int .i64 i] rfl (Rs.new w1 #[.int .i64 i] 3 1 rfl) (by simp [Value.oneCell']) (by have := HL.out; unfold maxLen; omega) (by have := HL.out; omega) (Nat.le_trans H1.out.t.size TN.out.size) ?_; intro v6 w6 o6 g6 p6; obtain ⟨a6, c6, e6⟩ := own_form o6; subst e6; have A6 := hid (H1.out.app (by decide) HU.out HO.out TN.out o6 g6); have z6 : w6.frozen? ⟨kc, 0, none⟩ = false := (froz_at (((Touch.refl _ _).grown g6 (fun q hq => Or.inl (by simp [hq]))).keep (F := (Value.slice a n c).ownBlock.toList) (TN.out.keep HU.out (by simp)) (fun hm => kind_ne HO.out HU.out (by decide) (Option.mem_toList.1 hm))) 0); have y6 := cell_at ((((Touch.refl _ _).grown g6 (fun q hq => Or.inl (by simp [hq]))).keep (F := (Value.slice a n c).ownBlock.toList) (TN.out.keep HU.out (by simp)) (fun hm => kind_ne HO.out HU.out (by decide) (Option.mem_toList.1 hm)))) (j := 0) rfl; clear o6 g6 p6)
    go_ret
    exact ⟨rfl, A6.out⟩
set_option maxHeartbeats 1000000 in
theorem where1_key {w0 w : World} {kc n : Nat} {C : List Value} {kf : Nat} (x0 : Value) (P : Bool) (h : Cj w0 kc 23 3 1 n C w) (hn : n ≤ 1048576) (hkf : w0.cell? ⟨kf, 0, none⟩ = some (.func (.func 27) #[] #[x0])) (e : Ez)
    (hF : ∀ w', Touch [] w0 w' → Calls Tryz.prog 27 #[e.val, x0] w' fun r w'' => r = .returned (.bool P) ∧ Touch [] w' w'') (i : Nat) :
    Calls Tryz.prog 44 #[.int .i64 i, e.val, PT kf, PT kc] w fun r w' => r = .returned (.bool true) ∧ Cj w0 kc 23 3 1 (n + if P then 1 else 0) (C ++ if P then [.int .i64 i] else []) w' := by
  have H := hid h
  have HF := hid hF
  have HT : Hid (Touch [] w (w.alloc (.cells #[.int .i64 e.at_, .int .i64 e.kd, .int .i64 e.cl, .int .i64 e.ca, .int .i64 e.ru, .int .i64 e.ge, .int .i64 e.ho, .int .u16 e.sp, .string e.nm, .int .i64 e.va, .int .i64 e.fk, .int .i64 e.fc, .int .i64 e.fr] 40))) := (Touch.refl [] w).alloc _
  have HK : Hid (∀ w', Touch [] w0 w' → w'.cell? ⟨kf, 0, none⟩ = some (.func (.func 27) #[] #[x0])) := hid (fun w' t => tcell t hkf)
  have HL := hid hn
  have k0 := HK.out _ (H.out.t.trans' HT.out)
  obtain ⟨V, hV⟩ : ∃ V, V = w.alloc (.cells #[.int .i64 e.at_, .int .i64 e.kd, .int .i64 e.cl, .int .i64 e.ca, .int .i64 e.ru, .int .i64 e.ge, .int .i64 e.ho, .int .u16 e.sp, .string e.nm, .int .i64 e.va, .int .i64 e.fk, .int .i64 e.fc, .int .i64 e.fr] 40) := ⟨_, rfl⟩
  obtain ⟨c0, c1, c2, c3, c4, c5, c6, c7, c8, c9, c10, c11, c12⟩ : Ib V w.heap.size e := by rw [hV]; exact Ib.new w e 40
  rw [← hV] at HT k0
  clear h hF hkf hn
  unfold PT Ez.val at *
  go_enter Tryz.func44, Tryz.ntmps44
  go_upto_region 1 with fail
  rw [← hV]
  clear hV
  go_wp2_with fail
  refine (HF.out _ (H.out.t.trans' HT.out)).mono ?_
  rintro r w1 ⟨rfl, t1⟩
  have H1 := hid (H.out.touch (HT.out.trans' t1))
  clear t1 HT k0 c0 c1 c2 c3 c4 c5 c6 c7 c8 c9 c10 c11 c12 H HF HK
  cases P with
  | false =>
    go_wp2_with fail
    go_ret
    exact ⟨rfl, by simpa using H1.out⟩
  | true =>
    obtain ⟨u, hu, ho⟩ := H1.out.bx
    obtain ⟨a, c, rfl⟩ := own_form ho
    have HU := hid hu
    have HO := hid ho
    have u0 := cell_at hu (j := 0) rfl
    have hz := block_lt hu
    have TN : Hid (Touch [] w1 (w1.alloc (.cells #[.int .i64 i] 3))) := (Touch.refl [] w1).alloc _
    clear hu ho
    go_wp2_with (at_builtin; refine wpList_append_rs rfl _ _ 23 3 rfl _ 1 8 info3 Tryz.underlying23 rfl (by decide) w0.heap.size (.slice a n c) n C rfl (own_touch HO.out TN.out (by simp)) (.slice (some ⟨w1.heap.size, 0, none⟩) 1 1) 1 [.int .i64 i] rfl (Rs.new w1 #[.int .i64 i] 3 1 rfl) (by simp [Value.oneCell']) (by have := HL.out; unfold maxLen; omega) (by have := HL.out; omega) (Nat.le_trans H1.out.t.size TN.out.size) ?_; intro v6 w6 o6 g6 p6; obtain ⟨a6, c6, e6⟩ := own_form o6; subst e6; have A6 := hid (H1.out.app (by decide) HU.out HO.out TN.out o6 g6); have z6 : w6.frozen? ⟨kc, 0, none⟩ = false := (froz_at (((Touch.refl _ _).grown g6 (fun q hq => Or.inl (by simp [hq]))).keep (F := (Value.slice a n c).ownBlock.toList) (TN.out.keep HU.out (by simp)) (fun hm => kind_ne HO.out HU.out (by decide) (Option.mem_toList.1 hm))) 0); have y6 := cell_at ((((Touch.refl _ _).grown g6 (fun q hq => Or.inl (by simp [hq]))).keep (F := (Value.slice a n c).ownBlock.toList) (TN.out.keep HU.out (by simp)) (fun hm => kind_ne HO.out HU.out (by decide) (Option.mem_toList.1 hm)))) (j := 0) rfl; clear o6 g6 p6)
    go_ret
    exact ⟨rfl, A6.out⟩
set_option maxHeartbeats 1000000 in
theorem where1_cl {w0 w : World} {kc n : Nat} {C : List Value} {kf : Nat} (x0 : Value) (P : Bool) (h : Cj w0 kc 23 3 1 n C w) (hn : n ≤ 1048576) (hkf : w0.cell? ⟨kf, 0, none⟩ = some (.func (.func 29) #[] #[x0])) (e : Ez)
    (hF : ∀ w', Touch [] w0 w' → Calls Tryz.prog 29 #[e.val, x0] w' fun r w'' => r = .returned (.bool P) ∧ Touch [] w' w'') (i : Nat) :
    Calls Tryz.prog 44 #[.int .i64 i, e.val, PT kf, PT kc] w fun r w' => r = .returned (.bool true) ∧ Cj w0 kc 23 3 1 (n + if P then 1 else 0) (C ++ if P then [.int .i64 i] else []) w' := by
  have H := hid h
  have HF := hid hF
  have HT : Hid (Touch [] w (w.alloc (.cells #[.int .i64 e.at_, .int .i64 e.kd, .int .i64 e.cl, .int .i64 e.ca, .int .i64 e.ru, .int .i64 e.ge, .int .i64 e.ho, .int .u16 e.sp, .string e.nm, .int .i64 e.va, .int .i64 e.fk, .int .i64 e.fc, .int .i64 e.fr] 40))) := (Touch.refl [] w).alloc _
  have HK : Hid (∀ w', Touch [] w0 w' → w'.cell? ⟨kf, 0, none⟩ = some (.func (.func 29) #[] #[x0])) := hid (fun w' t => tcell t hkf)
  have HL := hid hn
  have k0 := HK.out _ (H.out.t.trans' HT.out)
  obtain ⟨V, hV⟩ : ∃ V, V = w.alloc (.cells #[.int .i64 e.at_, .int .i64 e.kd, .int .i64 e.cl, .int .i64 e.ca, .int .i64 e.ru, .int .i64 e.ge, .int .i64 e.ho, .int .u16 e.sp, .string e.nm, .int .i64 e.va, .int .i64 e.fk, .int .i64 e.fc, .int .i64 e.fr] 40) := ⟨_, rfl⟩
  obtain ⟨c0, c1, c2, c3, c4, c5, c6, c7, c8, c9, c10, c11, c12⟩ : Ib V w.heap.size e := by rw [hV]; exact Ib.new w e 40
  rw [← hV] at HT k0
  clear h hF hkf hn
  unfold PT Ez.val at *
  go_enter Tryz.func44, Tryz.ntmps44
  go_upto_region 1 with fail
  rw [← hV]
  clear hV
  go_wp2_with fail
  refine (HF.out _ (H.out.t.trans' HT.out)).mono ?_
  rintro r w1 ⟨rfl, t1⟩
  have H1 := hid (H.out.touch (HT.out.trans' t1))
  clear t1 HT k0 c0 c1 c2 c3 c4 c5 c6 c7 c8 c9 c10 c11 c12 H HF HK
  cases P with
  | false =>
    go_wp2_with fail
    go_ret
    exact ⟨rfl, by simpa using H1.out⟩
  | true =>
    obtain ⟨u, hu, ho⟩ := H1.out.bx
    obtain ⟨a, c, rfl⟩ := own_form ho
    have HU := hid hu
    have HO := hid ho
    have u0 := cell_at hu (j := 0) rfl
    have hz := block_lt hu
    have TN : Hid (Touch [] w1 (w1.alloc (.cells #[.int .i64 i] 3))) := (Touch.refl [] w1).alloc _
    clear hu ho
    go_wp2_with (at_builtin; refine wpList_append_rs rfl _ _ 23 3 rfl _ 1 8 info3 Tryz.underlying23 rfl (by decide) w0.heap.size (.slice a n c) n C rfl (own_touch HO.out TN.out (by simp)) (.slice (some ⟨w1.heap.size, 0, none⟩) 1 1) 1 [.int .i64 i] rfl (Rs.new w1 #[.int .i64 i] 3 1 rfl) (by simp [Value.oneCell']) (by have := HL.out; unfold maxLen; omega) (by have := HL.out; omega) (Nat.le_trans H1.out.t.size TN.out.size) ?_; intro v6 w6 o6 g6 p6; obtain ⟨a6, c6, e6⟩ := own_form o6; subst e6; have A6 := hid (H1.out.app (by decide) HU.out HO.out TN.out o6 g6); have z6 : w6.frozen? ⟨kc, 0, none⟩ = false := (froz_at (((Touch.refl _ _).grown g6 (fun q hq => Or.inl (by simp [hq]))).keep (F := (Value.slice a n c).ownBlock.toList) (TN.out.keep HU.out (by simp)) (fun hm => kind_ne HO.out HU.out (by decide) (Option.mem_toList.1 hm))) 0); have y6 := cell_at ((((Touch.refl _ _).grown g6 (fun q hq => Or.inl (by simp [hq]))).keep (F := (Value.slice a n c).ownBlock.toList) (TN.out.keep HU.out (by simp)) (fun hm => kind_ne HO.out HU.out (by decide) (Option.mem_toList.1 hm)))) (j := 0) rfl; clear o6 g6 p6)
    go_ret
    exact ⟨rfl, A6.out⟩
set_option maxHeartbeats 1000000 in
theorem where1_bet {w0 w : World} {kc n : Nat} {C : List Value} {kf : Nat} (x0 x1 : Value) (P : Bool) (h : Cj w0 kc 23 3 1 n C w) (hn : n ≤ 1048576) (hkf : w0.cell? ⟨kf, 0, none⟩ = some (.func (.func 30) #[] #[x0, x1])) (e : Ez)
    (hF : ∀ w', Touch [] w0 w' → Calls Tryz.prog 30 #[e.val, x0, x1] w' fun r w'' => r = .returned (.bool P) ∧ Touch [] w' w'') (i : Nat) :
    Calls Tryz.prog 44 #[.int .i64 i, e.val, PT kf, PT kc] w fun r w' => r = .returned (.bool true) ∧ Cj w0 kc 23 3 1 (n + if P then 1 else 0) (C ++ if P then [.int .i64 i] else []) w' := by
  have H := hid h
  have HF := hid hF
  have HT : Hid (Touch [] w (w.alloc (.cells #[.int .i64 e.at_, .int .i64 e.kd, .int .i64 e.cl, .int .i64 e.ca, .int .i64 e.ru, .int .i64 e.ge, .int .i64 e.ho, .int .u16 e.sp, .string e.nm, .int .i64 e.va, .int .i64 e.fk, .int .i64 e.fc, .int .i64 e.fr] 40))) := (Touch.refl [] w).alloc _
  have HK : Hid (∀ w', Touch [] w0 w' → w'.cell? ⟨kf, 0, none⟩ = some (.func (.func 30) #[] #[x0, x1])) := hid (fun w' t => tcell t hkf)
  have HL := hid hn
  have k0 := HK.out _ (H.out.t.trans' HT.out)
  obtain ⟨V, hV⟩ : ∃ V, V = w.alloc (.cells #[.int .i64 e.at_, .int .i64 e.kd, .int .i64 e.cl, .int .i64 e.ca, .int .i64 e.ru, .int .i64 e.ge, .int .i64 e.ho, .int .u16 e.sp, .string e.nm, .int .i64 e.va, .int .i64 e.fk, .int .i64 e.fc, .int .i64 e.fr] 40) := ⟨_, rfl⟩
  obtain ⟨c0, c1, c2, c3, c4, c5, c6, c7, c8, c9, c10, c11, c12⟩ : Ib V w.heap.size e := by rw [hV]; exact Ib.new w e 40
  rw [← hV] at HT k0
  clear h hF hkf hn
  unfold PT Ez.val at *
  go_enter Tryz.func44, Tryz.ntmps44
  go_upto_region 1 with fail
  rw [← hV]
  clear hV
  go_wp2_with fail
  refine (HF.out _ (H.out.t.trans' HT.out)).mono ?_
  rintro r w1 ⟨rfl, t1⟩
  have H1 := hid (H.out.touch (HT.out.trans' t1))
  clear t1 HT k0 c0 c1 c2 c3 c4 c5 c6 c7 c8 c9 c10 c11 c12 H HF HK
  cases P with
  | false =>
    go_wp2_with fail
    go_ret
    exact ⟨rfl, by simpa using H1.out⟩
  | true =>
    obtain ⟨u, hu, ho⟩ := H1.out.bx
    obtain ⟨a, c, rfl⟩ := own_form ho
    have HU := hid hu
    have HO := hid ho
    have u0 := cell_at hu (j := 0) rfl
    have hz := block_lt hu
    have TN : Hid (Touch [] w1 (w1.alloc (.cells #[.int .i64 i] 3))) := (Touch.refl [] w1).alloc _
    clear hu ho
    go_wp2_with (at_builtin; refine wpList_append_rs rfl _ _ 23 3 rfl _ 1 8 info3 Tryz.underlying23 rfl (by decide) w0.heap.size (.slice a n c) n C rfl (own_touch HO.out TN.out (by simp)) (.slice (some ⟨w1.heap.size, 0, none⟩) 1 1) 1 [.int .i64 i] rfl (Rs.new w1 #[.int .i64 i] 3 1 rfl) (by simp [Value.oneCell']) (by have := HL.out; unfold maxLen; omega) (by have := HL.out; omega) (Nat.le_trans H1.out.t.size TN.out.size) ?_; intro v6 w6 o6 g6 p6; obtain ⟨a6, c6, e6⟩ := own_form o6; subst e6; have A6 := hid (H1.out.app (by decide) HU.out HO.out TN.out o6 g6); have z6 : w6.frozen? ⟨kc, 0, none⟩ = false := (froz_at (((Touch.refl _ _).grown g6 (fun q hq => Or.inl (by simp [hq]))).keep (F := (Value.slice a n c).ownBlock.toList) (TN.out.keep HU.out (by simp)) (fun hm => kind_ne HO.out HU.out (by decide) (Option.mem_toList.1 hm))) 0); have y6 := cell_at ((((Touch.refl _ _).grown g6 (fun q hq => Or.inl (by simp [hq]))).keep (F := (Value.slice a n c).ownBlock.toList) (TN.out.keep HU.out (by simp)) (fun hm => kind_ne HO.out HU.out (by decide) (Option.mem_toList.1 hm)))) (j := 0) rfl; clear o6 g6 p6)
    go_ret
    exact ⟨rfl, A6.out⟩
end Go.Proofs.YtcdikdiopklcgaaGreatDoor.Tr
