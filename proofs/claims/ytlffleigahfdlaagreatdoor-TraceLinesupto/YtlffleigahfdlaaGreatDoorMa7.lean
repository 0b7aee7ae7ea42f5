/- Words cut, numbers, keys, kinds and failures read; the conditions: the variables hold what the start lays. -/
import Derived.Test.YtlffleigahfdlaaGreatDoorMa5
import Derived.Test.YtlffleigahfdlaaGreatDoorMa2
import Derived.Test.YtlffleigahfdlaaGreatDoorEpj
import Derived.Test.YtlffleigahfdlaaGreatDoorShl
import Derived.Deep.RegionWith
namespace Go.Proofs.YtlffleigahfdlaaGreatDoor.Tr
open Go.RowKit Go.Sort Go.Shelf Go.Maps Go.ChangeMaps
open Go.Proofs.YtlffleigahfdlaaGreatDoor.Kt (piV kp scan isText isBad scan_le Gr)
set_option linter.unusedVariables false
set_option linter.unusedSimpArgs false
def cutL (s : ByteArray) (x : UInt8) : ByteArray := ⟨(Lib.cut s.data.toList [x]).1.toArray⟩
def cutR (s : ByteArray) (x : UInt8) : ByteArray := ⟨(Lib.cut s.data.toList [x]).2.1.toArray⟩
def cutB (s : ByteArray) (x : UInt8) : Bool := (Lib.cut s.data.toList [x]).2.2
theorem cut_len (l : List UInt8) (x : UInt8) : (Lib.cut l [x]).1.length ≤ l.length ∧ (Lib.cut l [x]).2.1.length ≤ l.length ∧ ((Lib.cut l [x]).2.2 = true → (Lib.cut l [x]).2.1.length < l.length ∨ l = []) := by
  unfold Lib.cut
  split
  · refine ⟨?_, ?_, fun _ => ?_⟩
    · rw [List.length_take]; omega
    · rw [List.length_drop]; omega
    · rw [List.length_drop]
      cases l
      · exact Or.inr rfl
      · left; simp only [List.length_cons, List.length_nil]; omega
  · exact ⟨Nat.le_refl _, by simp, fun h => by cases h⟩
theorem cutL_size (s : ByteArray) (x : UInt8) : (cutL s x).size ≤ s.size := by
  show (Lib.cut s.data.toList [x]).1.toArray.size ≤ s.size
  rw [List.size_toArray]; exact (cut_len _ x).1
theorem cutR_size (s : ByteArray) (x : UInt8) : (cutR s x).size ≤ s.size := by
  show (Lib.cut s.data.toList [x]).2.1.toArray.size ≤ s.size
  rw [List.size_toArray]; exact (cut_len _ x).2.1
theorem cut_ (s : ByteArray) (x : UInt8) (w : World) (hS : Sy w) (hs : s.size < 4294967281) :
    Calls Tryz.prog 61 #[.string s, .string ⟨#[x]⟩] w fun e w' => e = .returned (.tuple #[.string (cutL s x), .string (cutR s x), .bool (cutB s x)]) ∧ Touch [] w w' := by
  obtain ⟨m, hm⟩ := hS.ml
  exact (Tryz.strings_Cut s ⟨#[x]⟩ m w hs hm).mono fun e w' ⟨he, n, hn⟩ => ⟨he, by rw [hn]; exact ((Gr.refl w).drewN n).touch⟩
theorem pint_ (s : ByteArray) (w : World) (hS : Sy w) (hs : s.size < 4294967281) :
    Calls Tryz.prog 109 #[.string s, .int .i64 10, .int .i64 64] w fun e w' => ∃ ev, e = .returned (.tuple #[.int .i64 (piV s.data.toList), ev]) ∧ Touch [] w w' := by
  obtain ⟨te, pe, h3⟩ := hS.es
  obtain ⟨te', pe', h4⟩ := hS.er
  cases h : Lib.parseIntB 64 s.data.toList with
  | ok v =>
    have e : piV s.data.toList = v := by unfold Kt.piV; rw [h]
    rw [e]
    refine (Tryz.strconv_ParseInt_10_at64_ok s (by omega) v h w).mono fun e w' ⟨he, hw⟩ => ⟨_, he, ?_⟩
    rcases hw with rfl | ⟨t, rfl⟩
    · exact Touch.refl [] _
    · exact Touch.of_below (Lib.bytesWorld_below w 5 t)
  | range =>
    have e : piV s.data.toList = Lib.intSat 64 s.data.toList := by unfold Kt.piV; rw [h]
    rw [e]
    exact (Tryz.strconv_ParseInt_10_at64_range_var s (by omega) h te' pe' w h4).mono fun e w' ⟨N, he, _, _, hb⟩ => ⟨_, he, Touch.of_below hb⟩
  | _ =>
    have e : piV s.data.toList = 0 := by unfold Kt.piV; rw [h]
    rw [e]
    exact Calls.mono (P := Tryz.prog) (f := 109) (Any.strconv_ParseInt_10_at64_syntax_var Tryz.laysC174 s (by omega) h te pe w h3) fun e w' ⟨N, he, _, _, hb⟩ => ⟨_, he, Touch.of_below hb⟩
theorem num_ (s : ByteArray) (w : World) (hS : Sy w) (hs : s.size < 4294967281) :
    Calls Tryz.prog 86 #[.string s] w fun e w' => e = .returned (.int .i64 (piV s.data.toList)) ∧ Touch [] w w' := by
  have H := hid (pint_ s w hS hs)
  clear hS hs
  go_enter Tryz.func86, Tryz.ntmps86
  go_wp2_with fail
  refine Calls.mono H.out ?_
  rintro e w1 ⟨ev, rfl, t1⟩
  have T1 := hid t1
  clear t1 H
  go_wp2_with fail
  go_ret
  exact ⟨rfl, T1.out⟩
/-- which kind a word names -/
def kdIs (s : ByteArray) (j : Nat) : Prop := j ≤ 11 ∧ (1 ≤ j → wdS j = s) ∧ (j = 0 → ∀ k, 1 ≤ k → k ≤ 11 → wdS k ≠ s)
theorem kind_ (s : ByteArray) (w : World) (hk : Tk w) :
    Calls Tryz.prog 87 #[.string s] w fun e w' => (∃ j : Nat, e = .returned (.int .i64 j) ∧ kdIs s j) ∧ w' = w := by
  have HS : Hid (Tk w) := hk
  clear hk
  go_enter Tryz.func87, Tryz.ntmps87
  go_wp2
  go_loop [3] (fun i => ∃ j : Nat, i = .int .i64 j ∧ 1 ≤ j ∧ j ≤ 12 ∧ Hid (∀ k, 1 ≤ k → k < j → wdS k ≠ s)) (fun i => 12 - (intOf i).toNat)
  case atStart => exact ⟨1, rfl, by omega, by omega, fun k h1 h2 => by omega⟩
  case round =>
    obtain ⟨j, rfl, hj1, hj2, HN⟩ := hrel
    by_cases hlt : j ≤ 11
    · have hz : (j : Int) ≤ 11 := by omega
      have k3 : (j : Int) < 12 := by omega
      have k4 : (0 : Int) ≤ (j : Int) := by omega
      have c0 := HS.out.word j (by omega)
      by_cases he : wdS j = s
      · have hb : ((wdS j).toList == s.toList) = true := (Kt.beqB _ _).2 he
        have HR : Hid (kdIs s j) := ⟨hlt, fun _ => he, fun h => by omega⟩
        clear he
        generalize wdS j = wd at *
        go_wp2
        go_ret
        exact ⟨⟨j, rfl, HR.out⟩, rfl⟩
      · have hb : ((wdS j).toList == s.toList) = false := Bool.eq_false_iff.2 (fun h => he ((Kt.beqB _ _).1 h))
        have HN2 : Hid (∀ k, 1 ≤ k → k < j + 1 → wdS k ≠ s) := fun k h1 h2 => by
          rcases Nat.lt_or_ge k j with h | h
          · exact HN.out k h1 h
          · rw [show k = j by omega]; exact he
        clear he
        generalize wdS j = wd at *
        go_wp2
        go_round
        case rel => exact ⟨j + 1, by go_num, by omega, by omega, HN2.out⟩
        case measure => simp [intOf]; omega
    · have hz : ¬ (j : Int) ≤ 11 := by omega
      have HR : Hid (kdIs s 0) := ⟨by omega, fun h => by omega, fun _ k h1 h2 => HN.out k h1 (by omega)⟩
      go_wp2
      go_ret
      exact ⟨⟨0, rfl, HR.out⟩, rfl⟩
theorem kparse_ (s : ByteArray) (w : World) (hs : s.size < 4294967281) :
    Calls Tryz.prog 88 #[.string s] w fun e w' => ∃ (i e2 : Int), e = .returned (.tuple #[.agg #[.int .u16 (kp s).1, .string (kp s).2.1], .int .i64 i, .int .i64 e2]) ∧ Touch [] w w' := by
  obtain ⟨N, I, hN⟩ : ∃ N I, scan s.data.toList 0 0 = (N, I) := ⟨_, _, rfl⟩
  have hle := scan_le s.data.toList 0 0 (by omega)
  rw [hN] at hle
  have hI : I ≤ s.size := by have e : s.size = s.data.toList.length := rfl; omega
  by_cases ht : isText s I
  · have e : kp s = (N, s.extract (I + 1) s.size, true) := by unfold Kt.kp; rw [hN]; exact if_pos ht
    rw [e]
    obtain ⟨h0, ⟨hlt, h58⟩, hl⟩ := ht
    exact (Kt.parse14_ok s w (by omega) N I hN h0 hlt h58 hl).mono fun e w' ⟨he, hb⟩ => ⟨_, _, he, Touch.of_below hb⟩
  · have e : kp s = (0, ⟨#[]⟩, false) := by unfold Kt.kp; rw [hN]; exact if_neg ht
    rw [e]
    by_cases hb : isBad s I
    · exact (Kt.parse14_bad s w (by omega) N I hN hI hb).mono fun e w' ⟨he, hb⟩ => ⟨_, _, he, Touch.of_below hb⟩
    · have h0 : I ≠ 0 := fun h => hb (Or.inl h)
      have h1 : I ≠ s.size := fun h => hb (Or.inr (Or.inl h))
      have hlt : I < s.size := by omega
      have h58 : s[I].toNat = 58 := Classical.byContradiction fun h => hb (Or.inr (Or.inr ⟨hlt, h⟩))
      have hl : 64 < s.size - (I + 1) := Classical.byContradiction fun h => ht ⟨h0, ⟨hlt, h58⟩, by omega⟩
      exact (Kt.parse14_long s w (by omega) N I hN h0 hlt h58 hl).mono fun e w' ⟨he, hb⟩ => ⟨_, _, he, Touch.of_below hb⟩
def faK (s : ByteArray) : Int := piV (cutL s 58).data.toList
def faC (s : ByteArray) : Int := piV (cutL (cutR s 58) 58).data.toList
def faR (s : ByteArray) : Int := piV (cutR (cutR s 58) 58).data.toList
theorem fail_ (s : ByteArray) (w : World) (hS : Sy w) (hs : s.size < 4294967281) :
    Calls Tryz.prog 113 #[.string s] w fun e w' => e = .returned (.agg #[.int .i64 (faK s), .int .i64 (faC s), .int .i64 (faR s)]) ∧ Touch [] w w' := by
  have H1 := hid (fun w' (t : Touch [] w w') => cut_ s 58 w' (hS.touch t) hs)
  have H2 := hid (fun w' (t : Touch [] w w') => cut_ (cutR s 58) 58 w' (hS.touch t) (Nat.lt_of_le_of_lt (cutR_size s 58) hs))
  have H3 := hid (fun w' (t : Touch [] w w') => num_ (cutL s 58) w' (hS.touch t) (Nat.lt_of_le_of_lt (cutL_size s 58) hs))
  have H4 := hid (fun w' (t : Touch [] w w') => num_ (cutL (cutR s 58) 58) w' (hS.touch t) (Nat.lt_of_le_of_lt (Nat.le_trans (cutL_size _ 58) (cutR_size s 58)) hs))
  have H5 := hid (fun w' (t : Touch [] w w') => num_ (cutR (cutR s 58) 58) w' (hS.touch t) (Nat.lt_of_le_of_lt (Nat.le_trans (cutR_size _ 58) (cutR_size s 58)) hs))
  unfold faK faC faR
  generalize cutL s 58 = x1 at *
  generalize cutL (cutR s 58) 58 = x2 at *
  generalize cutR (cutR s 58) 58 = x3 at *
  generalize cutB s 58 = y1 at *
  generalize cutB (cutR s 58) 58 = y2 at *
  generalize cutR s 58 = x0 at *
  generalize piV x1.data.toList = p1 at *
  generalize piV x2.data.toList = p2 at *
  generalize piV x3.data.toList = p3 at *
  clear hS hs
  go_enter Tryz.func113, Tryz.ntmps113
  go_wp2_with fail
  refine (H1.out _ ((Touch.refl [] w).alloc _)).mono ?_
  rintro e w1 ⟨rfl, t1⟩
  have T1 : Hid (Touch [] w w1) := hid (((Touch.refl [] w).alloc _).trans' t1)
  have b1 : w1.heap[w.heap.size]? = some (.cells #[.int .i64 0, .int .i64 0, .int .i64 0] 26 (0, 0)) := t1.keep (heap_alloc_new w _) (by simp)
  have B1 := hid b1
  clear t1 b1 H1
  go_wp2_with fail
  refine (H2.out _ T1.out).mono ?_
  rintro e w2 ⟨rfl, t2⟩
  have B2 := hid (t2.keep B1.out (by simp))
  have T2 := hid (T1.out.trans' t2)
  clear t2 B1 T1 H2
  go_wp2_with fail
  refine (H3.out _ T2.out).mono ?_
  rintro e w3 ⟨rfl, t3⟩
  have B3 := hid (t3.keep B2.out (by simp))
  have T3 := hid (T2.out.trans' t3)
  clear t3 B2 T2 H3
  go_wp2_with fail
  refine (H4.out _ T3.out).mono ?_
  rintro e w4 ⟨rfl, t4⟩
  have B4 := hid (t4.keep B3.out (by simp))
  have T4 := hid (T3.out.trans' t4)
  clear t4 B3 T3 H4
  go_wp2_with fail
  refine (H5.out _ T4.out).mono ?_
  rintro e w5 ⟨rfl, t5⟩
  have b5 := t5.keep B4.out (by simp)
  have T5 := hid (T4.out.trans' t5)
  have c0 := cell_at b5 (j := 0) rfl
  have c1 := cell_at b5 (j := 1) rfl
  have c2 := cell_at b5 (j := 2) rfl
  have fz := froz_at b5
  clear t5 B4 T4 H5 b5
  go_wp2_with fail
  exact bodyPost_ret (v := .agg #[.int .i64 p1, .int .i64 p2, .int .i64 p3]) (by simp [results, Tryz.results113, go_sem, c0, c1, c2]) rfl ⟨rfl, ((T5.out.setCell (Or.inr (Nat.le_refl _)) _).setCell (Or.inr (Nat.le_refl _)) _).setCell (Or.inr (Nat.le_refl _)) _⟩
end Go.Proofs.YtlffleigahfdlaaGreatDoor.Tr
/- A word of a line, taken; the conditions: the variables hold what the start lays. -/
namespace Go.Proofs.YtlffleigahfdlaaGreatDoor.Tr
open Go.RowKit Go.Sort Go.Shelf Go.Maps Go.ChangeMaps
open Go.Proofs.YtlffleigahfdlaaGreatDoor.Kt (piV kp)
set_option linter.unusedVariables false
set_option linter.unusedSimpArgs false
/-- an event's box -/
def Bk (w : World) (b : Nat) (e : Ez) : Prop := w.heap[b]? = some (.cells e.cells.toArray 30 (0, 0))
theorem Bk.touch {w w' : World} {b : Nat} {e : Ez} (h : Bk w b e) (t : Touch [] w w') : Bk w' b e := t.keep h (by simp)
/-- what a word sets -/
def takeL (e : Ez) : List UInt8 → Ez
  | [] => e
  | c :: r => if c.toNat = 118 then { e with va := piV r } else if c.toNat = 102 then { e with fk := faK ⟨r.toArray⟩, fc := faC ⟨r.toArray⟩, fr := faR ⟨r.toArray⟩ } else if c.toNat = 99 then { e with cl := piV r } else if c.toNat = 110 then { e with ca := piV r } else if c.toNat = 114 then { e with ru := piV r } else if c.toNat = 103 then { e with ge := piV r } else if c.toNat = 104 then { e with ho := piV r } else e
theorem b_set {w : World} {b j : Nat} {e e' : Ez} {v : Value} (h : Bk w b e) (he : e.cells.toArray.setIfInBounds j v = e'.cells.toArray) : Bk (w.setCell ⟨b, j, none⟩ v) b e' := by
  have := heap_set (i := j) h v
  rw [he] at this
  exact this
theorem mixedP : Tryz.prog.follows .mixedOrders = true := by kernel_rfl
theorem ib5_no {Y : Nat} (h : Y < 256) (h1 : Y ≠ 99) (h2 : Y ≠ 110) (h3 : Y ≠ 114) (h4 : Y ≠ 103) (h5 : Y ≠ 104) : Lib.indexByte (⟨#[99, 110, 114, 103, 104]⟩ : ByteArray).data.toList ((Y : Int).toNat.toUInt8) = -1 := by
  have hy : ((Y : Int).toNat.toUInt8).toNat = Y := by simp; omega
  have q : ∀ (c : UInt8), c.toNat ≠ Y → (c == (Y : Int).toNat.toUInt8) = false := fun c hc => by
    rw [beq_eq_false_iff_ne]
    intro e
    rw [← e] at hy
    exact hc hy
  simp only [Lib.indexByte, q 99 (by simpa using Ne.symm h1), q 110 (by simpa using Ne.symm h2), q 114 (by simpa using Ne.symm h3), q 103 (by simpa using Ne.symm h4), q 104 (by simpa using Ne.symm h5)]
  rfl
set_option maxRecDepth 20000 in
set_option maxHeartbeats 8000000 in
theorem take_ {w : World} {b : Nat} {e : Ez} (hS : Sy w) (hB : Bk w b e) (s : ByteArray) (hs : s.size < 4294967281) :
    Calls Tryz.prog 90 #[.pointer (some ⟨b, 0, none⟩), .string s] w fun r w' => r = .returned (.tuple #[]) ∧ Bk w' b (takeL e s.data.toList) ∧ Touch [b] w w' := by
  have HS := hid hS
  have HB := hid hB
  have hsl : s.data.toList.length = s.size := rfl
  by_cases h0 : s.size = 0
  · have e0 : s = ⟨#[]⟩ := Kt.ba_ext (List.eq_nil_of_length_eq_zero (by rw [hsl]; exact h0))
    subst e0
    clear hS hB hs hsl h0
    go_enter Tryz.func90, Tryz.ntmps90
    go_wp2_with fail
    exact bodyPost_ret (v := .tuple #[]) (by simp [results, Tryz.results90, go_sem]) rfl ⟨rfl, HB.out, Touch.refl _ _⟩
  · have hpos : 0 < s.size := by omega
    have h1I : (1 : Int) ≤ (s.size : Int) := by omega
    have h0I : (0 : Int) < (s.size : Int) := by omega
    have hne : s.data.toList ≠ [] := fun e => by rw [e] at hsl; simp at hsl; omega
    have hneL : (s.toList == []) = false := by
      have : (s.toList == (⟨#[]⟩ : ByteArray).toList) = false := Bool.eq_false_iff.2 (fun h => by
        have := (Kt.beqB s ⟨#[]⟩).1 h
        rw [this] at h0; exact h0 rfl)
      simpa using this
    obtain ⟨Y, hY⟩ : ∃ Y : Nat, (s[0]'hpos).toNat = Y := ⟨_, rfl⟩
    have hY2 : Y < 256 := by rw [← hY]; exact (s[0]'hpos).toNat_lt
    have e1 : s.data.toList = s[0]'hpos :: (s.extract 1 s.size).data.toList := by
      rw [Lib.extract_data]
      have h2 : s.data.toList = s.data.toList[0]'(by rw [hsl]; exact hpos) :: s.data.toList.drop 1 := by
        have := List.drop_eq_getElem_cons (l := s.data.toList) (i := 0) (by rw [hsl]; exact hpos)
        simpa using this
      rw [List.take_of_length_le (by rw [List.length_drop, hsl]; omega)]
      exact h2
    obtain ⟨X, hX⟩ : ∃ X : ByteArray, s.extract 1 s.size = X := ⟨_, rfl⟩
    have hXs : X.size < 4294967281 := by rw [← hX, ByteArray.size_extract]; omega
    have HT : Hid (takeL e s.data.toList = if Y = 118 then { e with va := piV X.data.toList } else if Y = 102 then { e with fk := faK X, fc := faC X, fr := faR X } else if Y = 99 then { e with cl := piV X.data.toList } else if Y = 110 then { e with ca := piV X.data.toList } else if Y = 114 then { e with ru := piV X.data.toList } else if Y = 103 then { e with ge := piV X.data.toList } else if Y = 104 then { e with ho := piV X.data.toList } else e) := hid (by
      rw [e1, hX]
      simp only [takeL, hY, Array.toArray_toList])
    have HP := hid (fun w' (t : Touch [] w w') => num_ X w' (HS.out.touch t) hXs)
    have HF := hid (fun w' (t : Touch [] w w') => fail_ X w' (HS.out.touch t) hXs)
    have HN := hid (fun w' => numOf_ b w')
    have T1 := hid ((Touch.refl [] w).drew)
    clear e1 hne hsl hS hB hs h0 hXs
    unfold PA at HN
    go_enter Tryz.func90, Tryz.ntmps90
    go_wp2_with fail
    go_region
    obtain ⟨V, hV⟩ : ∃ V, V = w.drew := ⟨_, rfl⟩
    rw [← hV]
    have TV : Hid (Touch [] w V) := hid (by rw [hV]; exact T1.out)
    have BV : Hid (Bk V b e) := hid (HB.out.touch TV.out)
    clear hV T1 HB h1I h0I
    by_cases y1 : Y = 118
    · subst y1
      have E : Hid (takeL e s.data.toList = { e with va := piV X.data.toList }) := hid (by rw [HT.out]; rfl)
      clear HT hY2 hY HF HN
      go_wp2_with fail
      refine (HP.out _ TV.out).mono ?_
      rintro r w1 ⟨rfl, t1⟩
      have b1 := BV.out.touch t1
      have c9 := cell_at b1 (j := 9) rfl
      have fz := froz_at b1
      have B1 := hid b1
      have TW := hid (TV.out.trans' t1)
      clear b1 t1 HP TV BV
      go_wp2_with fail
      go_end0
      rw [E.out]
      exact ⟨rfl, b_set B1.out rfl, (TW.out.mono (fun k hk => by simp at hk)).setCell (Or.inl (by simp)) _⟩
    by_cases y2 : Y = 102
    · subst y2
      have E : Hid (takeL e s.data.toList = { e with fk := faK X, fc := faC X, fr := faR X }) := hid (by rw [HT.out]; rfl)
      clear HT hY2 hY HP HN
      generalize faK X = q1 at *
      generalize faC X = q2 at *
      generalize faR X = q3 at *
      go_wp2_with fail
      refine (HF.out _ TV.out).mono ?_
      rintro r w1 ⟨rfl, t1⟩
      have b1 := BV.out.touch t1
      have c10 := cell_at b1 (j := 10) rfl
      have c11 := cell_at b1 (j := 11) rfl
      have c12 := cell_at b1 (j := 12) rfl
      have fz := froz_at b1
      have B1 := hid b1
      have TW := hid (TV.out.trans' t1)
      clear b1 t1 HF TV BV
      go_wp2_with fail
      go_end0
      rw [E.out]
      exact ⟨rfl, b_set (b_set (b_set B1.out (j := 10) (e' := { e with fk := q1 }) rfl) (j := 11) (e' := { e with fk := q1, fc := q2 }) rfl) rfl, (((TW.out.mono (fun k hk => by simp at hk)).setCell (Or.inl (by simp)) _).setCell (Or.inl (by simp)) _).setCell (Or.inl (by simp)) _⟩
    by_cases y3 : Y = 99
    · subst y3
      have E : Hid (takeL e s.data.toList = { e with cl := piV X.data.toList }) := hid (by rw [HT.out]; rfl)
      have HI : Hid (∀ w', Calls Tryz.prog 106 #[.string ⟨#[99, 110, 114, 103, 104]⟩, .int .u8 99] w' fun e w'' => e = .returned (.int .i64 0) ∧ w'' = w') := hid (fun w' => Tryz.strings_IndexByte ⟨#[99, 110, 114, 103, 104]⟩ 99 w')
      have hix : ∀ w' : World, (Instr.index 123 (.agg #[.pointer (some ⟨b, 2, none⟩), .pointer (some ⟨b, 3, none⟩), .pointer (some ⟨b, 4, none⟩), .pointer (some ⟨b, 5, none⟩), .pointer (some ⟨b, 6, none⟩)]) (.int .i64 0)).run Tryz.prog w' = .ok (.pointer (some ⟨b, 2, none⟩)) w' := ixA b 0 (by omega)
      clear HT hY2 hY HF
      go_wp2_with fail
      refine (HI.out _).mono ?_
      rintro r w1 ⟨rfl, e1⟩
      rw [e1]
      clear e1 HI
      go_wp2_with fail
      go_region_with (first
        | (go_at_call 76; refine (HN.out _).mono ?_; rintro r w2 ⟨rfl, t2⟩; have T2 := hid (TV.out.drew.trans' t2); have B2 := hid ((show Bk V.drew b e from BV.out).touch t2); clear t2)
        | (go_at_call 86; refine (HP.out _ T2.out).mono ?_; rintro r w3 ⟨rfl, t3⟩; have T3 := hid (T2.out.trans' t3); have b3 := B2.out.touch t3; have c2 := cell_at b3 (j := 2) rfl; have fz := froz_at b3; have B3 := hid b3; clear t3 b3))
      all_goals
        go_wp2_with fail
        go_end0
        rw [E.out]
        exact ⟨rfl, b_set B3.out rfl, (T3.out.mono (fun k hk => by simp at hk)).setCell (Or.inl (by simp)) _⟩
    by_cases y4 : Y = 110
    · subst y4
      have E : Hid (takeL e s.data.toList = { e with ca := piV X.data.toList }) := hid (by rw [HT.out]; rfl)
      have HI : Hid (∀ w', Calls Tryz.prog 106 #[.string ⟨#[99, 110, 114, 103, 104]⟩, .int .u8 110] w' fun e w'' => e = .returned (.int .i64 1) ∧ w'' = w') := hid (fun w' => Tryz.strings_IndexByte ⟨#[99, 110, 114, 103, 104]⟩ 110 w')
      have hix : ∀ w' : World, (Instr.index 123 (.agg #[.pointer (some ⟨b, 2, none⟩), .pointer (some ⟨b, 3, none⟩), .pointer (some ⟨b, 4, none⟩), .pointer (some ⟨b, 5, none⟩), .pointer (some ⟨b, 6, none⟩)]) (.int .i64 1)).run Tryz.prog w' = .ok (.pointer (some ⟨b, 3, none⟩)) w' := ixA b 1 (by omega)
      clear HT hY2 hY HF
      go_wp2_with fail
      refine (HI.out _).mono ?_
      rintro r w1 ⟨rfl, e1⟩
      rw [e1]
      clear e1 HI
      go_wp2_with fail
      go_region_with (first
        | (go_at_call 76; refine (HN.out _).mono ?_; rintro r w2 ⟨rfl, t2⟩; have T2 := hid (TV.out.drew.trans' t2); have B2 := hid ((show Bk V.drew b e from BV.out).touch t2); clear t2)
        | (go_at_call 86; refine (HP.out _ T2.out).mono ?_; rintro r w3 ⟨rfl, t3⟩; have T3 := hid (T2.out.trans' t3); have b3 := B2.out.touch t3; have c3 := cell_at b3 (j := 3) rfl; have fz := froz_at b3; have B3 := hid b3; clear t3 b3))
      all_goals
        go_wp2_with fail
        go_end0
        rw [E.out]
        exact ⟨rfl, b_set B3.out rfl, (T3.out.mono (fun k hk => by simp at hk)).setCell (Or.inl (by simp)) _⟩
    by_cases y5 : Y = 114
    · subst y5
      have E : Hid (takeL e s.data.toList = { e with ru := piV X.data.toList }) := hid (by rw [HT.out]; rfl)
      have HI : Hid (∀ w', Calls Tryz.prog 106 #[.string ⟨#[99, 110, 114, 103, 104]⟩, .int .u8 114] w' fun e w'' => e = .returned (.int .i64 2) ∧ w'' = w') := hid (fun w' => Tryz.strings_IndexByte ⟨#[99, 110, 114, 103, 104]⟩ 114 w')
      have hix : ∀ w' : World, (Instr.index 123 (.agg #[.pointer (some ⟨b, 2, none⟩), .pointer (some ⟨b, 3, none⟩), .pointer (some ⟨b, 4, none⟩), .pointer (some ⟨b, 5, none⟩), .pointer (some ⟨b, 6, none⟩)]) (.int .i64 2)).run Tryz.prog w' = .ok (.pointer (some ⟨b, 4, none⟩)) w' := ixA b 2 (by omega)
      clear HT hY2 hY HF
      go_wp2_with fail
      refine (HI.out _).mono ?_
      rintro r w1 ⟨rfl, e1⟩
      rw [e1]
      clear e1 HI
      go_wp2_with fail
      go_region_with (first
        | (go_at_call 76; refine (HN.out _).mono ?_; rintro r w2 ⟨rfl, t2⟩; have T2 := hid (TV.out.drew.trans' t2); have B2 := hid ((show Bk V.drew b e from BV.out).touch t2); clear t2)
        | (go_at_call 86; refine (HP.out _ T2.out).mono ?_; rintro r w3 ⟨rfl, t3⟩; have T3 := hid (T2.out.trans' t3); have b3 := B2.out.touch t3; have c4 := cell_at b3 (j := 4) rfl; have fz := froz_at b3; have B3 := hid b3; clear t3 b3))
      all_goals
        go_wp2_with fail
        go_end0
        rw [E.out]
        exact ⟨rfl, b_set B3.out rfl, (T3.out.mono (fun k hk => by simp at hk)).setCell (Or.inl (by simp)) _⟩
    by_cases y6 : Y = 103
    · subst y6
      have E : Hid (takeL e s.data.toList = { e with ge := piV X.data.toList }) := hid (by rw [HT.out]; rfl)
      have HI : Hid (∀ w', Calls Tryz.prog 106 #[.string ⟨#[99, 110, 114, 103, 104]⟩, .int .u8 103] w' fun e w'' => e = .returned (.int .i64 3) ∧ w'' = w') := hid (fun w' => Tryz.strings_IndexByte ⟨#[99, 110, 114, 103, 104]⟩ 103 w')
      have hix : ∀ w' : World, (Instr.index 123 (.agg #[.pointer (some ⟨b, 2, none⟩), .pointer (some ⟨b, 3, none⟩), .pointer (some ⟨b, 4, none⟩), .pointer (some ⟨b, 5, none⟩), .pointer (some ⟨b, 6, none⟩)]) (.int .i64 3)).run Tryz.prog w' = .ok (.pointer (some ⟨b, 5, none⟩)) w' := ixA b 3 (by omega)
      clear HT hY2 hY HF
      go_wp2_with fail
      refine (HI.out _).mono ?_
      rintro r w1 ⟨rfl, e1⟩
      rw [e1]
      clear e1 HI
      go_wp2_with fail
      go_region_with (first
        | (go_at_call 76; refine (HN.out _).mono ?_; rintro r w2 ⟨rfl, t2⟩; have T2 := hid (TV.out.drew.trans' t2); have B2 := hid ((show Bk V.drew b e from BV.out).touch t2); clear t2)
        | (go_at_call 86; refine (HP.out _ T2.out).mono ?_; rintro r w3 ⟨rfl, t3⟩; have T3 := hid (T2.out.trans' t3); have b3 := B2.out.touch t3; have c5 := cell_at b3 (j := 5) rfl; have fz := froz_at b3; have B3 := hid b3; clear t3 b3))
      all_goals
        go_wp2_with fail
        go_end0
        rw [E.out]
        exact ⟨rfl, b_set B3.out rfl, (T3.out.mono (fun k hk => by simp at hk)).setCell (Or.inl (by simp)) _⟩
    by_cases y7 : Y = 104
    · subst y7
      have E : Hid (takeL e s.data.toList = { e with ho := piV X.data.toList }) := hid (by rw [HT.out]; rfl)
      have HI : Hid (∀ w', Calls Tryz.prog 106 #[.string ⟨#[99, 110, 114, 103, 104]⟩, .int .u8 104] w' fun e w'' => e = .returned (.int .i64 4) ∧ w'' = w') := hid (fun w' => Tryz.strings_IndexByte ⟨#[99, 110, 114, 103, 104]⟩ 104 w')
      have hix : ∀ w' : World, (Instr.index 123 (.agg #[.pointer (some ⟨b, 2, none⟩), .pointer (some ⟨b, 3, none⟩), .pointer (some ⟨b, 4, none⟩), .pointer (some ⟨b, 5, none⟩), .pointer (some ⟨b, 6, none⟩)]) (.int .i64 4)).run Tryz.prog w' = .ok (.pointer (some ⟨b, 6, none⟩)) w' := ixA b 4 (by omega)
      clear HT hY2 hY HF
      go_wp2_with fail
      refine (HI.out _).mono ?_
      rintro r w1 ⟨rfl, e1⟩
      rw [e1]
      clear e1 HI
      go_wp2_with fail
      go_region_with (first
        | (go_at_call 76; refine (HN.out _).mono ?_; rintro r w2 ⟨rfl, t2⟩; have T2 := hid (TV.out.drew.trans' t2); have B2 := hid ((show Bk V.drew b e from BV.out).touch t2); clear t2)
        | (go_at_call 86; refine (HP.out _ T2.out).mono ?_; rintro r w3 ⟨rfl, t3⟩; have T3 := hid (T2.out.trans' t3); have b3 := B2.out.touch t3; have c6 := cell_at b3 (j := 6) rfl; have fz := froz_at b3; have B3 := hid b3; clear t3 b3))
      all_goals
        go_wp2_with fail
        go_end0
        rw [E.out]
        exact ⟨rfl, b_set B3.out rfl, (T3.out.mono (fun k hk => by simp at hk)).setCell (Or.inl (by simp)) _⟩
    · have hI : Hid (∀ w', Calls Tryz.prog 106 #[.string ⟨#[99, 110, 114, 103, 104]⟩, .int .u8 (Y : Int)] w' fun e w'' => e = .returned (.int .i64 (-1)) ∧ w'' = w') := hid (fun w' => by
        have := Tryz.strings_IndexByte ⟨#[99, 110, 114, 103, 104]⟩ (Y : Int) w'
        rw [ib5_no hY2 y3 y4 y5 y6 y7] at this
        exact this)
      have E : Hid (takeL e s.data.toList = e) := hid (by rw [HT.out, if_neg y1, if_neg y2, if_neg y3, if_neg y4, if_neg y5, if_neg y6, if_neg y7])
      have z1 : ((Y : Int) == 118) = false := by simp; omega
      have z2 : ((Y : Int) == 102) = false := by simp; omega
      have z1' : ¬ (Y : Int) = 118 := by omega
      have z2' : ¬ (Y : Int) = 102 := by omega
      clear HT hY HP HF HN
      go_wp2_with fail
      refine (hI.out _).mono ?_
      rintro r w1 ⟨rfl, e1⟩
      rw [e1]
      clear e1 hI
      go_wp2_with fail
      go_end0
      rw [E.out]
      exact ⟨rfl, BV.out, TV.out.mono (fun k hk => by simp at hk)⟩
end Go.Proofs.YtlffleigahfdlaaGreatDoor.Tr
