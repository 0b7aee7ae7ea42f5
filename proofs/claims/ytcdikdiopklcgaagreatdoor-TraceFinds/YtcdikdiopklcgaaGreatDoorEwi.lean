/- The runs of a trace: gathered, sorted, each once; the conditions are that each states. -/
import Derived.Test.YtcdikdiopklcgaaGreatDoorEwg
import Derived.Test.YtcdikdiopklcgaaGreatDoorEwh
import Derived.Lib.SlicesCompact
namespace Go.Proofs.YtcdikdiopklcgaaGreatDoor.Tr
open Go.RowKit Go.Sort Go.Shelf Go.Maps Go.ChangeMaps
set_option linter.unusedVariables false
set_option linter.unusedSimpArgs false
theorem compact_def (zs : List Int) : Lib.compact zs = ((List.range zs.length).filter (Lib.keeps zs.toArray)).map (zs.toArray[·]!) := rfl
theorem compact_len (zs : List Int) : (Lib.compact zs).length ≤ zs.length := by
  rw [compact_def, List.length_map]
  exact Nat.le_trans (List.length_filter_le _ _) (by simp)
theorem at_bang (zs : List Int) (i : Nat) (h : i < zs.length) : zs.toArray[i]! = zs[i] := by simp [h]
theorem keeps_iff (zs : List Int) (j : Nat) (hj : j < zs.length) : Lib.keeps zs.toArray j = true ↔ j = 0 ∨ zs[j] ≠ zs[j - 1]'(by omega) := by
  rcases Nat.eq_zero_or_pos j with rfl | hp
  · exact ⟨fun _ => Or.inl rfl, fun _ => Lib.keeps_lt_one _ 0 (by omega)⟩
  · constructor
    · intro h
      refine Or.inr (fun e => ?_)
      have := Lib.keeps_neg (d := zs.toArray) hp (by rw [at_bang zs j hj, at_bang zs (j - 1) (by omega)]; exact e)
      rw [this] at h; cases h
    · rintro (rfl | h)
      · omega
      · exact Lib.keeps_pos (by rw [at_bang zs j hj, at_bang zs (j - 1) (by omega)]; exact h)
theorem compact_mem (zs : List Int) (x : Int) : x ∈ Lib.compact zs ↔ x ∈ zs := by
  rw [compact_def, List.mem_map]
  constructor
  · rintro ⟨i, hi, rfl⟩
    rw [List.mem_filter, List.mem_range] at hi
    rw [at_bang zs i hi.1]
    exact List.getElem_mem _
  · intro hx
    obtain ⟨j, hj, rfl⟩ := List.getElem_of_mem hx
    have key : ∀ j, (hj : j < zs.length) → ∃ i, ∃ (hi : i < zs.length), Lib.keeps zs.toArray i = true ∧ zs[i] = zs[j] := by
      intro j
      induction j with
      | zero => exact fun hj => ⟨0, hj, (keeps_iff zs 0 hj).2 (Or.inl rfl), rfl⟩
      | succ j ih =>
        intro hj
        by_cases e : zs[j + 1] = zs[j]
        · obtain ⟨i, hi, h1, h2⟩ := ih (by omega)
          exact ⟨i, hi, h1, by rw [h2, e]⟩
        · exact ⟨j + 1, hj, (keeps_iff zs (j + 1) hj).2 (Or.inr (by simpa using e)), rfl⟩
    obtain ⟨i, hi, h1, h2⟩ := key j hj
    exact ⟨i, by rw [List.mem_filter, List.mem_range]; exact ⟨hi, h1⟩, by rw [at_bang zs i hi, h2]⟩
theorem compact_lt (zs : List Int) (hs : zs.Pairwise (· ≤ ·)) : (Lib.compact zs).Pairwise (· < ·) := by
  rw [compact_def, List.pairwise_map]
  have h1 : ((List.range zs.length).filter (Lib.keeps zs.toArray)).Pairwise (· < ·) := List.Pairwise.filter _ List.pairwise_lt_range
  refine List.Pairwise.imp_of_mem ?_ h1
  intro a b ha hb hab
  rw [List.mem_filter, List.mem_range] at ha hb
  rw [at_bang zs a ha.1, at_bang zs b hb.1]
  have hle : ∀ i j, (hi : i < zs.length) → (hj : j < zs.length) → i ≤ j → zs[i] ≤ zs[j] := fun i j hi hj hij => by
    rcases Nat.lt_or_eq_of_le hij with h | h
    · exact (List.pairwise_iff_getElem.1 hs) i j hi hj h
    · subst h; exact Int.le_refl _
  rcases (keeps_iff zs b hb.1).1 hb.2 with e | e
  · omega
  · have h2 := hle a (b - 1) ha.1 (by omega) (by omega)
    have h3 := hle (b - 1) b (by omega) hb.1 (by omega)
    omega
theorem sorted_le (zs : List Int) : (zs.mergeSort fun x y => decide (x ≤ y)).Pairwise (· ≤ ·) := by
  have := List.pairwise_mergeSort (le := fun x y : Int => decide (x ≤ y)) (fun a b c h1 h2 => by simp at *; omega) (fun a b => by simp; omega) zs
  exact this.imp (fun h => by simpa using h)
theorem sorted_mem (zs : List Int) (x : Int) : x ∈ (zs.mergeSort fun x y => decide (x ≤ y)) ↔ x ∈ zs := (List.mergeSort_perm zs _).mem_iff
/-- two lists of numbers, each once, with the same members, are as long as one another -/
theorem same_len {a b : List Int} (ha : a.Nodup) (hb : b.Nodup) (h : ∀ x, x ∈ a ↔ x ∈ b) : a.length = b.length := ((List.perm_ext_iff_of_nodup ha hb).2 h).length_eq
theorem nodup_of_lt {a : List Int} (h : a.Pairwise (· < ·)) : a.Nodup := h.imp (fun h e => by omega)
def ruL (L : List Ez) : List Int := L.filterMap fun e => if e.ru = 0 then none else some e.ru
theorem ruL_take (L : List Ez) (i : Nat) (e : Ez) (h : L[i]? = some e) : ruL (L.take (i + 1)) = ruL (L.take i) ++ (if e.ru = 0 then [] else [e.ru]) := by
  obtain ⟨hi, he⟩ := List.getElem?_eq_some_iff.1 h
  rw [List.take_succ_eq_append_getElem hi, he]
  unfold ruL
  rw [List.filterMap_append]
  congr 1
  by_cases h : e.ru = 0 <;> simp [h]
theorem ruL_len (L : List Ez) : (ruL L).length ≤ L.length := List.length_filterMap_le _ _
set_option maxHeartbeats 1000000 in
theorem runs1_ {w0 w : World} {kc n : Nat} {C : List Value} (h : Cj w0 kc 23 3 1 n C w) (hn : n ≤ 1048576) (i : Nat) (e : Ez) :
    Calls Tryz.prog 32 #[.int .i64 i, e.val, PT kc] w fun r w' => r = .returned (.bool true) ∧ Cj w0 kc 23 3 1 (n + if e.ru = 0 then 0 else 1) (C ++ if e.ru = 0 then [] else [.int .i64 e.ru]) w' := by
  obtain ⟨V, hV⟩ : ∃ V, V = w.alloc (.cells #[.int .i64 e.at_, .int .i64 e.kd, .int .i64 e.cl, .int .i64 e.ca, .int .i64 e.ru, .int .i64 e.ge, .int .i64 e.ho, .int .u16 e.sp, .string e.nm, .int .i64 e.va, .int .i64 e.fk, .int .i64 e.fc, .int .i64 e.fr] 40) := ⟨_, rfl⟩
  have HT : Hid (Touch [] w V) := by show Touch [] w V; rw [hV]; exact (Touch.refl [] w).alloc _
  obtain ⟨c0, c1, c2, c3, c4, c5, c6, c7, c8, c9, c10, c11, c12⟩ : Ib V w.heap.size e := by rw [hV]; exact Ib.new w e 40
  have H1 := hid (h.touch HT.out)
  have HL := hid hn
  have hlt : w.heap.size < V.heap.size := by rw [hV]; simp
  clear h hn
  obtain ⟨t, kd, cl, ca, ru, ge, ho, sp, nm, va, fk, fc, fr⟩ := e
  dsimp only at *
  unfold PT Ez.val at *
  by_cases h0 : ru = 0
  · subst h0
    go_enter Tryz.func32, Tryz.ntmps32
    go_upto_region 1 with fail
    rw [← hV]
    clear hV
    go_wp2_with fail
    go_ret
    exact ⟨rfl, by simpa using H1.out⟩
  · have h1 : (ru != 0) = true := by simp [h0]
    have H0 := hid h0
    clear h0
    obtain ⟨u, hu, ho⟩ := H1.out.bx
    obtain ⟨a, c, rfl⟩ := own_form ho
    have HU := hid hu
    have HO := hid ho
    have u0 := cell_at hu (j := 0) rfl
    have hz := block_lt hu
    have TN : Hid (Touch [] V (V.alloc (.cells #[.int .i64 ru] 3))) := (Touch.refl [] V).alloc _
    clear hu ho
    go_enter Tryz.func32, Tryz.ntmps32
    go_upto_region 1 with fail
    rw [← hV]
    clear hV
    go_wp2_with (at_builtin; refine wpList_append_rs rfl _ _ 23 3 rfl _ 1 8 info3 Tryz.underlying23 rfl (by decide) w0.heap.size (.slice a n c) n C rfl (own_touch HO.out TN.out (by simp)) (.slice (some ⟨V.heap.size, 0, none⟩) 1 1) 1 [.int .i64 ru] rfl (Rs.new V #[.int .i64 ru] 3 1 rfl) (by simp [Value.oneCell']) (by have := HL.out; unfold maxLen; omega) (by have := HL.out; omega) (Nat.le_trans H1.out.t.size TN.out.size) ?_; intro v6 w6 o6 g6 p6; obtain ⟨a6, c6, e6⟩ := own_form o6; subst e6; have A6 := hid (H1.out.app (by decide) HU.out HO.out TN.out o6 g6); have z6 : w6.frozen? ⟨kc, 0, none⟩ = false := (froz_at (((Touch.refl _ _).grown g6 (fun q hq => Or.inl (by simp [hq]))).keep (F := (Value.slice a n c).ownBlock.toList) (TN.out.keep HU.out (by simp)) (fun hm => kind_ne HO.out HU.out (by decide) (Option.mem_toList.1 hm))) 0); have y6 := cell_at ((((Touch.refl _ _).grown g6 (fun q hq => Or.inl (by simp [hq]))).keep (F := (Value.slice a n c).ownBlock.toList) (TN.out.keep HU.out (by simp)) (fun hm => kind_ne HO.out HU.out (by decide) (Option.mem_toList.1 hm)))) (j := 0) rfl; clear o6 g6 p6)
    go_ret
    exact ⟨rfl, by simpa [H0.out] using A6.out⟩
set_option maxHeartbeats 1000000 in
theorem each_runs {w : World} {B b : Nat} {v : Value} {L : List Ez} (x0 : Value) (J : Nat → World → Prop) (E : World → Prop) (h0 : J 0 w) (hT : ∀ i w', J i w' → Tq w' B b v L) (hA : ∀ i w' o, J i w' → J i (w'.alloc o))
    (hs : ∀ i e w', L[i]? = some e → J i w' → Calls Tryz.prog 32 #[.int .i64 i, e.val, x0] w' fun r w'' => EachR (J (i + 1)) E r w'') (hE : ∀ w', J L.length w' → E w') :
    Calls Tryz.prog 31 #[PT b, .func (.func 32) #[] #[x0]] w fun r w' => r = .returned (.tuple #[]) ∧ E w' := by
  have hq := hT 0 w h0
  have HT := hid hT
  have HA := hid hA
  have HE := hid hE
  have HS := hid hs
  have H0 := hid h0
  have hle := hq.le
  obtain ⟨a, c, rfl⟩ := own_form hq.ow
  have cb := cell_at hq.bx (j := 0) rfl
  obtain ⟨n, hn⟩ : ∃ n, L.length = n := ⟨_, rfl⟩
  have HN := hid hn
  rw [hn] at cb hle
  obtain ⟨NL, hNL⟩ : ∃ NL : Int, (n : Int) = NL := ⟨_, rfl⟩
  have hNb : NL ≤ 1048576 := by omega
  clear h0 hT hA hs hE hq hn
  unfold PT
  go_enter Tryz.func31, Tryz.ntmps31
  go_wp2_with fail
  go_loopw [13] (fun i wr => ∃ j : Nat, i = .int .i64 j ∧ j ≤ n ∧ Hid (J j wr)) (fun i _ => n - (intOf i).toNat)
  case atStart => exact ⟨0, rfl, Nat.zero_le _, H0.out⟩
  case round =>
    obtain ⟨j, rfl, hj, HJ⟩ := hrel
    clear H0 cb
    by_cases hlt : j < n
    · have hz : (j : Int) < NL := by omega
      obtain ⟨e, he⟩ : ∃ e, L[j]? = some e := ⟨_, List.getElem?_eq_getElem (by rw [HN.out]; exact hlt)⟩
      have hq := HT.out _ _ HJ.out
      obtain ⟨g0, c', e1, _, hg⟩ := own_some hq.ow (by rw [HN.out]; omega)
      have HR := rc_own (e1 ▸ hq.ow) he
      obtain ⟨c0, c1, c2, c3, c4, c5, c6, c7, c8, c9, c10, c11, c12⟩ := HR
      simp only [Value.slice.injEq] at e1
      obtain ⟨rfl, -, rfl⟩ := e1
      have HC := hid (fun o => HS.out j e _ he (HA.out j wr o HJ.out))
      clear he hq
      unfold Ez.val at HC
      go_wp2_with fail
      refine (HC.out _).mono ?_
      rintro r w2 h2
      rcases h2 with ⟨rfl, h2⟩ | ⟨rfl, h2⟩
      · have H2 := hid h2
        clear h2 HC c0 c1 c2 c3 c4 c5 c6 c7 c8 c9 c10 c11 c12
        go_wp2_with fail
        go_roundw
        case rel => exact ⟨j + 1, by go_num, by omega, H2⟩
        case measure => simp [intOf]; omega
      · have H2 := hid h2
        clear h2 HC c0 c1 c2 c3 c4 c5 c6 c7 c8 c9 c10 c11 c12
        go_wp2_with fail
        first | go_end0 | refine bodyPost_ret (results_none rfl _ _ _) rfl ?_
        exact ⟨rfl, H2.out⟩
    · have hz : ¬ (j : Int) < NL := by omega
      have e1 : j = L.length := by rw [HN.out]; omega
      have H2 : Hid (E wr) := HE.out _ (e1 ▸ HJ.out)
      clear e1 HJ
      go_wp2_with fail
      first | go_end0 | refine bodyPost_ret (results_none rfl _ _ _) rfl ?_
      exact ⟨rfl, H2.out⟩
theorem touch_put {w0 w : World} (h : Touch [] w0 w) {g : Nat} (hg : w0.heap.size ≤ g) (n : Nat) (xs : Array Int) : Touch [] w0 (putRow (Value.int .i64) (Go.Sort.ahead w n) g 0 xs) :=
  h.trans (G := [g]) ⟨rfl, rfl, rfl, by simp [putRow, mapBlock, Go.Sort.ahead], fun k hk hn => by
    simp only [List.mem_singleton] at hn
    show (mapBlock (Go.Sort.ahead w n) g _).heap[k]? = w.heap[k]?
    simp only [mapBlock, Array.getElem?_modify]
    rw [if_neg (fun e => hn e.symm)]
    rfl⟩ (fun i hi => Or.inr (by simp only [List.mem_singleton] at hi; omega))
theorem put_other (w : World) {g k : Nat} (hn : k ≠ g) (n : Nat) (xs : Array Int) : (putRow (Value.int .i64) (Go.Sort.ahead w n) g 0 xs).heap[k]? = w.heap[k]? := by
  show (mapBlock (Go.Sort.ahead w n) g _).heap[k]? = w.heap[k]?
  simp only [mapBlock, Array.getElem?_modify]
  rw [if_neg (fun e => hn e.symm)]
  rfl
theorem put_size (w : World) (g n : Nat) (xs : Array Int) : (putRow (Value.int .i64) (Go.Sort.ahead w n) g 0 xs).heap.size = w.heap.size := by simp [putRow, mapBlock, Go.Sort.ahead]
theorem grow_touch (w : World) (os : Array Obj) : Touch [] w (grow w os) := ⟨rfl, rfl, rfl, by rw [size_grow]; omega, fun k hk _ => heap_grow_old _ _ hk⟩
theorem own_holds {w : World} {base g c : Nat} {F : List Int} (h : w.ownsRow base 3 1 (.slice (some ⟨g, 0, none⟩) F.length c) F.length (ints F)) : Holds (Value.int .i64) w g 0 F.toArray := by
  intro j hj
  simp at hj
  refine ⟨?_, own_frozen h _⟩
  rw [Nat.zero_add]
  exact own_cell h (by simp [ints, hj])
theorem holds_cell {w : World} {g : Nat} {F : List Int} (h : Holds (Value.int .i64) w g 0 F.toArray) (i : Nat) (hi : i < F.length) : w.cell? ⟨g, i, none⟩ = some (.int .i64 F[i]) := by
  have := (h i (by simpa using hi)).1
  rw [Nat.zero_add] at this
  simpa [hi] using this
/-- what Runs answers -/
def RnQ (L : List Ez) (r : Ending) (w w' : World) : Prop := ∃ A c Z, r = .returned (.slice A (Z : List Int).length c) ∧ (∀ i (h : i < Z.length), ∃ b, A = some ⟨b, 0, none⟩ ∧ w'.cell? ⟨b, i, none⟩ = some (.int .i64 Z[i])) ∧ Z.Pairwise (· < ·) ∧ (∀ x, x ∈ Z ↔ x ∈ ruL L) ∧ Z.length ≤ L.length ∧ Touch [] w w'
set_option maxHeartbeats 2000000 in
theorem runs_ {w : World} {B b : Nat} {v : Value} {L : List Ez} (h : Tq w B b v L) : Calls Tryz.prog 14 #[PT b] w fun r w' => RnQ L r w w' := by
  have hmf := makef Tryz.prog
  have HE : Hid (Calls Tryz.prog 31 #[PT b, .func (.func 32) #[] #[PT w.heap.size]] (w.alloc (.cells #[.slice none 0 0] 23)) fun r w' => r = .returned (.tuple #[]) ∧ Cj w w.heap.size 23 3 1 (ruL L).length (ints (ruL L)) w') := by
    refine each_runs (PT w.heap.size) (fun i w' => Cj w w.heap.size 23 3 1 (ruL (L.take i)).length (ints (ruL (L.take i))) w') _ (B := B) (b := b) (v := v) (L := L) (Cj.new w 23 3 1) (fun i w' hj => h.touch0 hj.t) (fun i w' o hj => hj.touch ((Touch.refl [] w').alloc o)) (fun i e w' he hj => ?_) (fun w' hj => by rw [List.take_length] at hj; exact hj)
    have hl : (ruL (L.take i)).length ≤ 1048576 := Nat.le_trans (ruL_len _) (by have := h.le; rw [List.length_take]; omega)
    refine (runs1_ hj hl i e).mono fun r w2 hq => Or.inl ⟨hq.1, ?_⟩
    have h2 := hq.2
    rw [ruL_take L i e he, List.length_append]
    by_cases h0 : e.ru = 0
    · simp only [if_pos h0] at h2 ⊢; simpa using h2
    · simp only [if_neg h0] at h2 ⊢; simpa [ints] using h2
  have hle := Nat.le_trans (ruL_len L) h.le
  have hrl := ruL_len L
  have HLn := hid hrl
  obtain ⟨G, hG⟩ : ∃ G, ruL L = G := ⟨_, rfl⟩
  rw [hG] at HE hle hrl HLn
  have HGe := hid hG
  clear hG
  unfold PT at *
  clear h
  go_enter Tryz.func14, Tryz.ntmps14
  go_wp2_with fail
  refine Calls.mono HE.out ?_
  rintro r w1 ⟨rfl, h1⟩
  obtain ⟨u, hu, ho⟩ := h1.bx
  have T1 := hid h1.t
  have HK := hid hu
  clear h1 HE
  rcases ho.2 with ⟨e1, h0⟩ | ⟨g, c, cur, e1, hg, hc, hn, hm, hsz, ht⟩
  · subst e1
    have HG : Hid (G = []) := List.length_eq_zero_iff.1 h0
    have HS : Hid (∀ w', Calls Tryz.prog 33 #[.slice none 0 0] w' fun e w'' => e = .returned (.tuple #[]) ∧ w'' = w') := hid (fun w' => AnyM.slices_Sort_int_none Tryz.sortA none 0 w')
    have HC : Hid (∀ w', Calls Tryz.prog 34 #[.slice none 0 0] w' fun e w'' => e = .returned (.slice none 0 0) ∧ w'' = w') := hid (fun w' => Any.slices_Compact_int_empty Tryz.compA none 0 w')
    have u0 := cell_at hu (j := 0) rfl
    clear hu ho h0 hle hrl
    go_wp2_with fail
    refine (HS.out _).mono ?_
    rintro r wq ⟨rfl, e1⟩
    rw [e1]
    clear e1 wq
    go_wp2_with fail
    refine (HC.out _).mono ?_
    rintro r wq ⟨rfl, e1⟩
    rw [e1]
    clear e1 wq
    go_wp2_with fail
    go_ret
    exact ⟨none, 0, [], rfl, fun i hi => absurd hi (Nat.not_lt_zero _), List.Pairwise.nil, fun x => by rw [HGe.out, HG.out], Nat.zero_le _, T1.out⟩
  · subst e1
    have hH := own_holds ho
    have HB : Hid (w.heap.size ≤ g ∧ g < w1.heap.size ∧ G.length ≤ c) := hid ⟨hg, block_lt hc, hn⟩
    have HNE : Hid (w.heap.size ≠ g) := hid (fun e => by rw [e, hc] at hu; simp at hu)
    have C1 : Hid (Calls Tryz.prog 33 #[.slice (some ⟨g, 0, none⟩) G.length c] w1 fun e w' => e = .returned (.tuple #[]) ∧ ∃ n os, w' = grow (putRow (Value.int .i64) (Go.Sort.ahead w1 n) g 0 (G.mergeSort fun x y => decide (x ≤ y)).toArray) os) := hid (AnyM.slices_Sort_int Tryz.sortA g 0 c G w1 hH HB.out.2.1 (by omega))
    have hlen : G.length = (G.mergeSort fun x y => decide (x ≤ y)).length := (List.length_mergeSort _).symm
    obtain ⟨S, hS⟩ : ∃ S, (G.mergeSort fun x y => decide (x ≤ y)) = S := ⟨_, rfl⟩
    have HS : Hid (S.Pairwise (· ≤ ·) ∧ (∀ x, x ∈ S ↔ x ∈ G) ∧ G.length = S.length) := by rw [← hS]; exact ⟨sorted_le _, sorted_mem _, hlen⟩
    rw [hS] at C1
    have H2 : Hid (∀ n, Holds (Value.int .i64) (putRow (Value.int .i64) (Go.Sort.ahead w1 n) g 0 S.toArray) g 0 S.toArray) := fun n => holds_putRow (Value.int .i64) (Go.Sort.ahead w1 n) g 0 G.toArray S.toArray (holds_ahead (Value.int .i64) w1 n g 0 G.toArray hH) (by simp [HS.out.2.2])
    have u0 := cell_at hu (j := 0) rfl
    have HLe := hid hle
    clear hS hlen hH hg hc hn hm hsz ht ho hu hrl hle
    go_wp2_with fail
    refine Calls.mono C1.out ?_
    rintro r w2 ⟨rfl, n1, os, hw1⟩
    have hk2 : w2.heap[w.heap.size]? = some (.cells #[.slice (some ⟨g, 0, none⟩) G.length c] 23 (0, 0)) := by
      rw [hw1, (grow_touch _ os).block _ (by rw [put_size]; exact block_lt HK.out) (by simp), put_other w1 HNE.out]
      exact HK.out
    have HT2 : Hid (Touch [] w w2) := by show Touch [] w w2; rw [hw1]; exact (touch_put T1.out HB.out.1 _ _).trans' (grow_touch _ _)
    have hh1 : Holds (Value.int .i64) w2 g 0 S.toArray := by rw [hw1]; exact holds_grow (Value.int .i64) _ os g 0 S.toArray (by rw [put_size]; exact HB.out.2.1) (H2.out n1)
    have C2 : Hid (Calls Tryz.prog 34 #[.slice (some ⟨g, 0, none⟩) S.length c] w2 fun e w' => e = .returned (.slice (some ⟨g, 0, none⟩) (Lib.compact S).length c) ∧ ∃ q, w' = putRow (Value.int .i64) (Go.Sort.ahead w2 q) g 0 (Lib.compact S ++ List.replicate (S.length - (Lib.compact S).length) 0).toArray) := hid (Any.slices_Compact_int Tryz.compA g 0 c S w2 hh1 (by have := HS.out.2.2; have := HLe.out; omega) (by have := HS.out.2.2; have := HB.out.2.2; omega))
    have H3 : Hid (∀ q, Holds (Value.int .i64) (putRow (Value.int .i64) (Go.Sort.ahead w2 q) g 0 (Lib.compact S ++ List.replicate (S.length - (Lib.compact S).length) 0).toArray) g 0 (Lib.compact S ++ List.replicate (S.length - (Lib.compact S).length) 0).toArray) := fun q => holds_putRow (Value.int .i64) (Go.Sort.ahead w2 q) g 0 S.toArray _ (holds_ahead (Value.int .i64) w2 q g 0 S.toArray hh1) (by have := compact_len S; simp; omega)
    have u2 := cell_at hk2 (j := 0) rfl
    clear hw1 hh1 C1 H2 u0 hk2
    have hSl := HS.out.2.2
    rw [hSl] at u2 ⊢
    clear hSl
    go_wp2_with fail
    refine Calls.mono C2.out ?_
    rintro r w3 ⟨rfl, q, hw2⟩
    have h4 := H3.out q
    rw [← hw2] at h4
    have H4 := hid h4
    have HT3 : Hid (Touch [] w w3) := by show Touch [] w w3; rw [hw2]; exact touch_put HT2.out HB.out.1 _ _
    clear hw2 h4 H3 C2
    go_wp2_with fail
    go_ret
    refine ⟨some ⟨g, 0, none⟩, c, Lib.compact S, rfl, fun i hi => ⟨g, rfl, ?_⟩, compact_lt S HS.out.1, fun x => ?_, ?_, HT3.out⟩
    · have h5 := holds_cell H4.out i (by rw [List.length_append]; omega)
      rw [h5, List.getElem_append_left hi]
    · rw [compact_mem, HS.out.2.1, HGe.out]
    · have := compact_len S; have := HS.out.2.2; have := HLn.out; omega
end Go.Proofs.YtcdikdiopklcgaaGreatDoor.Tr
