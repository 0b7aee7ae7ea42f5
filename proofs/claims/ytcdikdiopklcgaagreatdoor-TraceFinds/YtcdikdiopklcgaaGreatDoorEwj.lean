/- The keys of a trace: gathered, each once, sorted; the conditions are that each states. -/
import Derived.Test.YtcdikdiopklcgaaGreatDoorEwg
import Derived.Test.YtcdikdiopklcgaaGreatDoorXug
import Derived.Test.YtcdikdiopklcgaaGreatDoorQso
namespace Go.Proofs.YtcdikdiopklcgaaGreatDoor.Tr
open Go.RowKit Go.Sort Go.Shelf Go.Maps Go.ChangeMaps
set_option linter.unusedVariables false
set_option linter.unusedSimpArgs false
def keL (L : List Ez) : List K := L.filterMap fun e => if nmB e.kd 107 then some (e.sp, e.nm) else none
theorem keL_take (L : List Ez) (i : Nat) (e : Ez) (h : L[i]? = some e) : keL (L.take (i + 1)) = keL (L.take i) ++ (if nmB e.kd 107 then [(e.sp, e.nm)] else []) := by
  obtain ⟨hi, he⟩ := List.getElem?_eq_some_iff.1 h
  rw [List.take_succ_eq_append_getElem hi, he]
  unfold keL
  rw [List.filterMap_append]
  congr 1
  cases h : nmB e.kd 107 <;> simp [h]
theorem keL_len (L : List Ez) : (keL L).length ≤ L.length := List.length_filterMap_le _ _
theorem keL_ok {L : List Ez} (h : ∀ e ∈ L, Ok (e.sp, e.nm)) : ∀ x ∈ keL L, Ok x := fun x hx => by
  unfold keL at hx
  obtain ⟨e, he, h2⟩ := List.mem_filterMap.1 hx
  split at h2
  · cases h2; exact h e he
  · cases h2
set_option maxHeartbeats 1000000 in
theorem keys1_ {w0 w : World} {kc n : Nat} {C : List Value} (h : Cj w0 kc 56 26 2 n C w) (hn : n ≤ 1048576) (hk : Tk w0) (i : Nat) (e : Ez) :
    Calls Tryz.prog 36 #[.int .i64 i, e.val, PT kc] w fun r w' => r = .returned (.bool true) ∧ Cj w0 kc 56 26 2 (n + if nmB e.kd 107 then 1 else 0) (C ++ if nmB e.kd 107 then [.int .u16 e.sp, .string e.nm] else []) w' := by
  obtain ⟨V, hV⟩ : ∃ V, V = w.alloc (.cells #[.int .i64 e.at_, .int .i64 e.kd, .int .i64 e.cl, .int .i64 e.ca, .int .i64 e.ru, .int .i64 e.ge, .int .i64 e.ho, .int .u16 e.sp, .string e.nm, .int .i64 e.va, .int .i64 e.fk, .int .i64 e.fc, .int .i64 e.fr] 40) := ⟨_, rfl⟩
  have HT : Hid (Touch [] w V) := by show Touch [] w V; rw [hV]; exact (Touch.refl [] w).alloc _
  have HB : Hid (∀ w', Touch [] V w' → Ib w' w.heap.size e) := hid (fun w' t => by
    have : Ib V w.heap.size e := by rw [hV]; exact Ib.new w e 40
    exact this.touch t)
  have H0 := hid (h.touch HT.out)
  have HN := hid (fun w' (t : Touch [] w0 w') => namK_ e w' (hk.touch t))
  have HL := hid hn
  clear h hn hk
  obtain ⟨c0, c1, c2, c3, c4, c5, c6, c7, c8, c9, c10, c11, c12⟩ := HB.out _ (Touch.refl [] V)
  generalize nmB e.kd 107 = P at *
  unfold PT Ez.val at *
  go_enter Tryz.func36, Tryz.ntmps36
  go_upto_region 1 with fail
  rw [← hV]
  clear hV
  go_wp2_with fail
  refine (HN.out _ H0.out.t).mono ?_
  rintro r w1 ⟨rfl, t1⟩
  have H1 := hid (H0.out.touch t1)
  have B1 := HB.out _ t1
  clear t1 c0 c1 c2 c3 c4 c5 c6 c7 c8 c9 c10 c11 c12 HB H0 HN HT
  cases P with
  | false =>
    go_wp2_with fail
    go_ret
    exact ⟨rfl, by simpa using H1.out⟩
  | true =>
    obtain ⟨u, hu, ho⟩ := H1.out.bx
    obtain ⟨a, c, rfl⟩ := own_form ho
    have HU := hid hu
    have HO := hid ho
    have u0 := cell_at hu (j := 0) rfl
    have hz := block_lt hu
    have c7 := B1.c7
    have c8 := B1.c8
    have TN : Hid (Touch [] w1 (w1.alloc (.cells #[.int .u16 e.sp, .string e.nm] 26))) := (Touch.refl [] w1).alloc _
    clear hu ho B1
    go_wp2_with (at_builtin; refine wpList_append_rs rfl _ _ 56 26 rfl _ 2 24 So.infoAz Tryz.underlying56 rfl (by decide) w0.heap.size (.slice a n c) n C rfl (own_touch HO.out TN.out (by simp)) (.slice (some ⟨w1.heap.size, 0, none⟩) 1 1) 1 [.int .u16 e.sp, .string e.nm] rfl (Rs.new w1 #[.int .u16 e.sp, .string e.nm] 26 2 rfl) (by simp [Value.oneCell']) (by have := HL.out; unfold maxLen; omega) (by have := HL.out; omega) (Nat.le_trans H1.out.t.size TN.out.size) ?_; intro v6 w6 o6 g6 p6; obtain ⟨a6, c6, e6⟩ := own_form o6; subst e6; have A6 := hid (H1.out.app (by decide) HU.out HO.out TN.out o6 g6); have z6 : w6.frozen? ⟨kc, 0, none⟩ = false := (froz_at (((Touch.refl _ _).grown g6 (fun q hq => Or.inl (by simp [hq]))).keep (F := (Value.slice a n c).ownBlock.toList) (TN.out.keep HU.out (by simp)) (fun hm => kind_ne HO.out HU.out (by decide) (Option.mem_toList.1 hm))) 0); have y6 := cell_at ((((Touch.refl _ _).grown g6 (fun q hq => Or.inl (by simp [hq]))).keep (F := (Value.slice a n c).ownBlock.toList) (TN.out.keep HU.out (by simp)) (fun hm => kind_ne HO.out HU.out (by decide) (Option.mem_toList.1 hm)))) (j := 0) rfl; clear o6 g6 p6)
    go_ret
    exact ⟨rfl, by simpa using A6.out⟩
set_option maxHeartbeats 1000000 in
theorem each_keys {w : World} {B b : Nat} {v : Value} {L : List Ez} (x0 : Value) (J : Nat → World → Prop) (E : World → Prop) (h0 : J 0 w) (hT : ∀ i w', J i w' → Tq w' B b v L) (hA : ∀ i w' o, J i w' → J i (w'.alloc o))
    (hs : ∀ i e w', L[i]? = some e → J i w' → Calls Tryz.prog 36 #[.int .i64 i, e.val, x0] w' fun r w'' => EachR (J (i + 1)) E r w'') (hE : ∀ w', J L.length w' → E w') :
    Calls Tryz.prog 31 #[PT b, .func (.func 36) #[] #[x0]] w fun r w' => r = .returned (.tuple #[]) ∧ E w' := by
  have hq := hT 0 w h0
  have HT := hid hT
  have HA := hid hA
  have HE := hid hE
  have HS := hid hs
  have H0 := hid h0
  have hle := hq.le
  obtain ⟨a, c, rfl⟩ := own_form hq.ow
  have cb := cell_at hq.bx (j := 0) rfl
  obtain ⟨n, hn⟩ : ∃ n, L.length = n := ⟨_, rfl⟩
  have HN := hid hn
  rw [hn] at cb hle
  obtain ⟨NL, hNL⟩ : ∃ NL : Int, (n : Int) = NL := ⟨_, rfl⟩
  have hNb : NL ≤ 1048576 := by omega
  clear h0 hT hA hs hE hq hn
  unfold PT
  go_enter Tryz.func31, Tryz.ntmps31
  go_wp2_with fail
  go_loopw [13] (fun i wr => ∃ j : Nat, i = .int .i64 j ∧ j ≤ n ∧ Hid (J j wr)) (fun i _ => n - (intOf i).toNat)
  case atStart => exact ⟨0, rfl, Nat.zero_le _, H0.out⟩
  case round =>
    obtain ⟨j, rfl, hj, HJ⟩ := hrel
    clear H0 cb
    by_cases hlt : j < n
    · have hz : (j : Int) < NL := by omega
      obtain ⟨e, he⟩ : ∃ e, L[j]? = some e := ⟨_, List.getElem?_eq_getElem (by rw [HN.out]; exact hlt)⟩
      have hq := HT.out _ _ HJ.out
      obtain ⟨g0, c', e1, _, hg⟩ := own_some hq.ow (by rw [HN.out]; omega)
      have HR := rc_own (e1 ▸ hq.ow) he
      obtain ⟨c0, c1, c2, c3, c4, c5, c6, c7, c8, c9, c10, c11, c12⟩ := HR
      simp only [Value.slice.injEq] at e1
      obtain ⟨rfl, -, rfl⟩ := e1
      have HC := hid (fun o => HS.out j e _ he (HA.out j wr o HJ.out))
      clear he hq
      unfold Ez.val at HC
      go_wp2_with fail
      refine (HC.out _).mono ?_
      rintro r w2 h2
      rcases h2 with ⟨rfl, h2⟩ | ⟨rfl, h2⟩
      · have H2 := hid h2
        clear h2 HC c0 c1 c2 c3 c4 c5 c6 c7 c8 c9 c10 c11 c12
        go_wp2_with fail
        go_roundw
        case rel => exact ⟨j + 1, by go_num, by omega, H2⟩
        case measure => simp [intOf]; omega
      · have H2 := hid h2
        clear h2 HC c0 c1 c2 c3 c4 c5 c6 c7 c8 c9 c10 c11 c12
        go_wp2_with fail
        first | go_end0 | refine bodyPost_ret (results_none rfl _ _ _) rfl ?_
        exact ⟨rfl, H2.out⟩
    · have hz : ¬ (j : Int) < NL := by omega
      have e1 : j = L.length := by rw [HN.out]; omega
      have H2 : Hid (E wr) := HE.out _ (e1 ▸ HJ.out)
      clear e1 HJ
      go_wp2_with fail
      first | go_end0 | refine bodyPost_ret (results_none rfl _ _ _) rfl ?_
      exact ⟨rfl, H2.out⟩
theorem gatherO (xs : List K) (v : Value) (w : World) (hl : xs.length * 24 ≤ 140737488351232) (hN : ∀ x ∈ xs, Ok x) (R : Un.Sl w v xs) :
    Calls Tryz.prog 50 #[v] w fun e w' => ∃ v4 v5, e = .returned (.tuple #[v4, v5]) ∧ w'.ownsRow w.heap.size 26 2 v4 (Un.unl [] xs).length (Me.cellsK (Un.unl [] xs)) ∧ Touch [] w w' := by
  rcases R with ⟨rfl, a, cap, rfl⟩ | ⟨b, off, cap, rfl, R⟩
  · exact (Un.gather41_nil a cap w).mono fun e w' ⟨he, hb⟩ => ⟨_, _, he, ⟨rfl, Or.inl ⟨rfl, rfl⟩⟩, Touch.of_below hb⟩
  · exact (Un.gather41_row xs b off cap w hl hN R).mono fun e w' ⟨A4, A5, c4, c5, D, he, hS⟩ => ⟨_, _, he, own_base hS.o4 (by omega), Touch.of_below hS.bl⟩
theorem unlikeO (xs : List K) (v : Value) (w : World) (hl : xs.length * 24 ≤ 140737488351232) (hN : ∀ x ∈ xs, Ok x) (R : Un.Sl w v xs) :
    Calls Tryz.prog 38 #[v] w fun e w' => ∃ v, e = .returned v ∧ w'.ownsRow w.heap.size 26 2 v (Un.unl [] xs).length (Me.cellsK (Un.unl [] xs)) ∧ Touch [] w w' := by
  have A : Hid _ := gatherO xs v w hl hN R
  clear R hN hl
  go_enter Tryz.func38, Tryz.ntmps38
  go_wp2_with fail
  refine Calls.mono A.out ?_
  rintro e w1 ⟨v4, v5, rfl, h1, h3⟩
  go_wp2_with fail
  go_ret
  exact ⟨_, rfl, h1, h3⟩
theorem sl_own {w : World} {B n : Nat} {v : Value} {xs : List K} (h : w.ownsRow B 26 2 v n (Me.cellsK xs)) (hn : n = xs.length) : Un.Sl w v xs := by
  subst hn
  rcases h.2 with ⟨e1, h0⟩ | ⟨g, c, cur, e1, _⟩
  · subst e1
    exact Or.inl ⟨List.length_eq_zero_iff.1 h0, none, 0, rfl⟩
  · subst e1
    exact Or.inr ⟨g, 0, c, rfl, Un.owns_row h⟩
/-- what Keys answers -/
def KyQ (L : List Ez) (r : Ending) (w w' : World) : Prop := ∃ v ys, r = .returned v ∧ ys.Perm (Un.unl [] (keL L)) ∧ ys.Pairwise So.leK ∧ w'.ownsRow w.heap.size 26 2 v ys.length (Me.cellsK ys) ∧ Touch [] w w'
set_option maxHeartbeats 2000000 in
theorem keys_ {w : World} {B b : Nat} {v : Value} {L : List Ez} (h : Tq w B b v L) (hk : Tk w) (hO : ∀ e ∈ L, Ok (e.sp, e.nm)) : Calls Tryz.prog 17 #[PT b] w fun r w' => KyQ L r w w' := by
  have hmf := makef Tryz.prog
  have HE : Hid (Calls Tryz.prog 31 #[PT b, .func (.func 36) #[] #[PT w.heap.size]] (w.alloc (.cells #[.slice none 0 0] 56)) fun r w' => r = .returned (.tuple #[]) ∧ Cj w w.heap.size 56 26 2 (keL L).length (Me.cellsK (keL L)) w') := by
    refine each_keys (PT w.heap.size) (fun i w' => Cj w w.heap.size 56 26 2 (keL (L.take i)).length (Me.cellsK (keL (L.take i))) w') _ (B := B) (b := b) (v := v) (L := L) (Cj.new w 56 26 2) (fun i w' hj => h.touch0 hj.t) (fun i w' o hj => hj.touch ((Touch.refl [] w').alloc o)) (fun i e w' he hj => ?_) (fun w' hj => by rw [List.take_length] at hj; exact hj)
    have hl : (keL (L.take i)).length ≤ 1048576 := Nat.le_trans (keL_len _) (by have := h.le; rw [List.length_take]; omega)
    refine (keys1_ hj hl hk i e).mono fun r w2 hq => Or.inl ⟨hq.1, ?_⟩
    have h2 := hq.2
    rw [keL_take L i e he, List.length_append]
    cases h0 : nmB e.kd 107 with
    | false => rw [h0] at h2; simpa using h2
    | true => rw [h0] at h2; rw [if_pos rfl, Me.cellsK_app]; simpa [Me.cellsK] using h2
  have HLn : Hid ((keL L).length ≤ 1048576) := Nat.le_trans (keL_len L) h.le
  have HOk := hid (keL_ok hO)
  have HUl := hid (Un.unl_len [] (keL L))
  obtain ⟨G, hG⟩ : ∃ G, keL L = G := ⟨_, rfl⟩
  rw [hG] at HE HLn HOk HUl
  have HGe := hid hG
  clear h hk hO hG
  unfold PT at *
  go_enter Tryz.func17, Tryz.ntmps17
  go_wp2_with fail
  refine Calls.mono HE.out ?_
  rintro r w1 ⟨rfl, h1⟩
  obtain ⟨u, hu, ho⟩ := h1.bx
  have T1 := hid h1.t
  have u0 := cell_at hu (j := 0) rfl
  have HU := hid (unlikeO G u w1 (by have := HLn.out; omega) HOk.out (sl_own ho rfl))
  clear h1 HE hu ho
  go_wp2_with fail
  refine Calls.mono HU.out ?_
  rintro r w2 ⟨v2, rfl, o2, t2⟩
  have T2 := hid (T1.out.trans' t2)
  have HS := hid (So.sorted_ (Un.unl [] G) w2 v2 (by have h5 := HUl.out; have h6 := HLn.out; simp only [List.length_nil, Nat.zero_add] at h5; omega) (Rs.of_own o2))
  clear o2 t2 HU u0
  go_wp2_with fail
  refine Calls.mono HS.out ?_
  rintro r w3 ⟨v3, ys, rfl, h1, h2, h3, h4⟩
  have HR : Hid (KyQ L (.returned v3) w w3) := ⟨v3, ys, rfl, by rw [HGe.out]; exact h1, h2, own_base h3 T2.out.size, T2.out.trans' h4⟩
  clear h1 h2 h3 h4 HS
  go_wp2_with fail
  go_ret
  exact HR.out
end Go.Proofs.YtcdikdiopklcgaaGreatDoor.Tr
