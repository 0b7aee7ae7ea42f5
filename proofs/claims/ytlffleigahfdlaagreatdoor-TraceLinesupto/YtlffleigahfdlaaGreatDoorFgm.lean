/- A word of a line, taken; the conditions: the variables hold what the start lays. -/
import Derived.Test.YtlffleigahfdlaaGreatDoorFgl
import Derived.Deep.RegionWith
namespace Go.Proofs.YtlffleigahfdlaaGreatDoor.Tr
open Go.RowKit Go.Sort Go.Shelf Go.Maps Go.ChangeMaps
open Go.Proofs.YtlffleigahfdlaaGreatDoor.Kt (piV kp)
set_option linter.unusedVariables false
set_option linter.unusedSimpArgs false
/-- an event's box -/
def Bk (w : World) (b : Nat) (e : Ez) : Prop := w.heap[b]? = some (.cells e.cells.toArray 30 (0, 0))
theorem Bk.touch {w w' : World} {b : Nat} {e : Ez} (h : Bk w b e) (t : Touch [] w w') : Bk w' b e := t.keep h (by simp)
/-- what a word sets -/
def takeL (e : Ez) : List UInt8 → Ez
  | [] => e
  | c :: r => if c.toNat = 118 then { e with va := piV r } else if c.toNat = 102 then { e with fk := faK ⟨r.toArray⟩, fc := faC ⟨r.toArray⟩, fr := faR ⟨r.toArray⟩ } else if c.toNat = 99 then { e with cl := piV r } else if c.toNat = 110 then { e with ca := piV r } else if c.toNat = 114 then { e with ru := piV r } else if c.toNat = 103 then { e with ge := piV r } else if c.toNat = 104 then { e with ho := piV r } else e
theorem b_set {w : World} {b j : Nat} {e e' : Ez} {v : Value} (h : Bk w b e) (he : e.cells.toArray.setIfInBounds j v = e'.cells.toArray) : Bk (w.setCell ⟨b, j, none⟩ v) b e' := by
  have := heap_set (i := j) h v
  rw [he] at this
  exact this
theorem mixedP : Tryz.prog.follows .mixedOrders = true := by kernel_rfl
theorem ib5_no {Y : Nat} (h : Y < 256) (h1 : Y ≠ 99) (h2 : Y ≠ 110) (h3 : Y ≠ 114) (h4 : Y ≠ 103) (h5 : Y ≠ 104) : Lib.indexByte (⟨#[99, 110, 114, 103, 104]⟩ : ByteArray).data.toList ((Y : Int).toNat.toUInt8) = -1 := by
  have hy : ((Y : Int).toNat.toUInt8).toNat = Y := by simp; omega
  have q : ∀ (c : UInt8), c.toNat ≠ Y → (c == (Y : Int).toNat.toUInt8) = false := fun c hc => by
    rw [beq_eq_false_iff_ne]
    intro e
    rw [← e] at hy
    exact hc hy
  simp only [Lib.indexByte, q 99 (by simpa using Ne.symm h1), q 110 (by simpa using Ne.symm h2), q 114 (by simpa using Ne.symm h3), q 103 (by simpa using Ne.symm h4), q 104 (by simpa using Ne.symm h5)]
  rfl
set_option maxRecDepth 20000 in
set_option maxHeartbeats 8000000 in
theorem take_ {w : World} {b : Nat} {e : Ez} (hS : Sy w) (hB : Bk w b e) (s : ByteArray) (hs : s.size < 4294967281) :
    Calls Tryz.prog 90 #[.pointer (some ⟨b, 0, none⟩), .string s] w fun r w' => r = .returned (.tuple #[]) ∧ Bk w' b (takeL e s.data.toList) ∧ Touch [b] w w' := by
  have HS := hid hS
  have HB := hid hB
  have hsl : s.data.toList.length = s.size := rfl
  by_cases h0 : s.size = 0
  · have e0 : s = ⟨#[]⟩ := Kt.ba_ext (List.eq_nil_of_length_eq_zero (by rw [hsl]; exact h0))
    subst e0
    clear hS hB hs hsl h0
    go_enter Tryz.func90, Tryz.ntmps90
    go_wp2_with fail
    exact bodyPost_ret (v := .tuple #[]) (by simp [results, Tryz.results90, go_sem]) rfl ⟨rfl, HB.out, Touch.refl _ _⟩
  · have hpos : 0 < s.size := by omega
    have h1I : (1 : Int) ≤ (s.size : Int) := by omega
    have h0I : (0 : Int) < (s.size : Int) := by omega
    have hne : s.data.toList ≠ [] := fun e => by rw [e] at hsl; simp at hsl; omega
    have hneL : (s.toList == []) = false := by
      have : (s.toList == (⟨#[]⟩ : ByteArray).toList) = false := Bool.eq_false_iff.2 (fun h => by
        have := (Kt.beqB s ⟨#[]⟩).1 h
        rw [this] at h0; exact h0 rfl)
      simpa using this
    obtain ⟨Y, hY⟩ : ∃ Y : Nat, (s[0]'hpos).toNat = Y := ⟨_, rfl⟩
    have hY2 : Y < 256 := by rw [← hY]; exact (s[0]'hpos).toNat_lt
    have e1 : s.data.toList = s[0]'hpos :: (s.extract 1 s.size).data.toList := by
      rw [Lib.extract_data]
      have h2 : s.data.toList = s.data.toList[0]'(by rw [hsl]; exact hpos) :: s.data.toList.drop 1 := by
        have := List.drop_eq_getElem_cons (l := s.data.toList) (i := 0) (by rw [hsl]; exact hpos)
        simpa using this
      rw [List.take_of_length_le (by rw [List.length_drop, hsl]; omega)]
      exact h2
    obtain ⟨X, hX⟩ : ∃ X : ByteArray, s.extract 1 s.size = X := ⟨_, rfl⟩
    have hXs : X.size < 4294967281 := by rw [← hX, ByteArray.size_extract]; omega
    have HT : Hid (takeL e s.data.toList = if Y = 118 then { e with va := piV X.data.toList } else if Y = 102 then { e with fk := faK X, fc := faC X, fr := faR X } else if Y = 99 then { e with cl := piV X.data.toList } else if Y = 110 then { e with ca := piV X.data.toList } else if Y = 114 then { e with ru := piV X.data.toList } else if Y = 103 then { e with ge := piV X.data.toList } else if Y = 104 then { e with ho := piV X.data.toList } else e) := hid (by
      rw [e1, hX]
      simp only [takeL, hY, Array.toArray_toList])
    have HP := hid (fun w' (t : Touch [] w w') => num_ X w' (HS.out.touch t) hXs)
    have HF := hid (fun w' (t : Touch [] w w') => fail_ X w' (HS.out.touch t) hXs)
    have HN := hid (fun w' => numOf_ b w')
    have T1 := hid ((Touch.refl [] w).drew)
    clear e1 hne hsl hS hB hs h0 hXs
    unfold PA at HN
    go_enter Tryz.func90, Tryz.ntmps90
    go_wp2_with fail
    go_region
    obtain ⟨V, hV⟩ : ∃ V, V = w.drew := ⟨_, rfl⟩
    rw [← hV]
    have TV : Hid (Touch [] w V) := hid (by rw [hV]; exact T1.out)
    have BV : Hid (Bk V b e) := hid (HB.out.touch TV.out)
    clear hV T1 HB h1I h0I
    by_cases y1 : Y = 118
    · subst y1
      have E : Hid (takeL e s.data.toList = { e with va := piV X.data.toList }) := hid (by rw [HT.out]; rfl)
      clear HT hY2 hY HF HN
      go_wp2_with fail
      refine (HP.out _ TV.out).mono ?_
      rintro r w1 ⟨rfl, t1⟩
      have b1 := BV.out.touch t1
      have c9 := cell_at b1 (j := 9) rfl
      have fz := froz_at b1
      have B1 := hid b1
      have TW := hid (TV.out.trans' t1)
      clear b1 t1 HP TV BV
      go_wp2_with fail
      go_end0
      rw [E.out]
      exact ⟨rfl, b_set B1.out rfl, (TW.out.mono (fun k hk => by simp at hk)).setCell (Or.inl (by simp)) _⟩
    by_cases y2 : Y = 102
    · subst y2
      have E : Hid (takeL e s.data.toList = { e with fk := faK X, fc := faC X, fr := faR X }) := hid (by rw [HT.out]; rfl)
      clear HT hY2 hY HP HN
      generalize faK X = q1 at *
      generalize faC X = q2 at *
      generalize faR X = q3 at *
      go_wp2_with fail
      refine (HF.out _ TV.out).mono ?_
      rintro r w1 ⟨rfl, t1⟩
      have b1 := BV.out.touch t1
      have c10 := cell_at b1 (j := 10) rfl
      have c11 := cell_at b1 (j := 11) rfl
      have c12 := cell_at b1 (j := 12) rfl
      have fz := froz_at b1
      have B1 := hid b1
      have TW := hid (TV.out.trans' t1)
      clear b1 t1 HF TV BV
      go_wp2_with fail
      go_end0
      rw [E.out]
      exact ⟨rfl, b_set (b_set (b_set B1.out (j := 10) (e' := { e with fk := q1 }) rfl) (j := 11) (e' := { e with fk := q1, fc := q2 }) rfl) rfl, (((TW.out.mono (fun k hk => by simp at hk)).setCell (Or.inl (by simp)) _).setCell (Or.inl (by simp)) _).setCell (Or.inl (by simp)) _⟩
    by_cases y3 : Y = 99
    · subst y3
      have E : Hid (takeL e s.data.toList = { e with cl := piV X.data.toList }) := hid (by rw [HT.out]; rfl)
      have HI : Hid (∀ w', Calls Tryz.prog 106 #[.string ⟨#[99, 110, 114, 103, 104]⟩, .int .u8 99] w' fun e w'' => e = .returned (.int .i64 0) ∧ w'' = w') := hid (fun w' => Tryz.strings_IndexByte ⟨#[99, 110, 114, 103, 104]⟩ 99 w')
      have hix : ∀ w' : World, (Instr.index 123 (.agg #[.pointer (some ⟨b, 2, none⟩), .pointer (some ⟨b, 3, none⟩), .pointer (some ⟨b, 4, none⟩), .pointer (some ⟨b, 5, none⟩), .pointer (some ⟨b, 6, none⟩)]) (.int .i64 0)).run Tryz.prog w' = .ok (.pointer (some ⟨b, 2, none⟩)) w' := ixA b 0 (by omega)
      clear HT hY2 hY HF
      go_wp2_with fail
      refine (HI.out _).mono ?_
      rintro r w1 ⟨rfl, e1⟩
      rw [e1]
      clear e1 HI
      go_wp2_with fail
      go_region_with (first
        | (go_at_call 76; refine (HN.out _).mono ?_; rintro r w2 ⟨rfl, t2⟩; have T2 := hid (TV.out.drew.trans' t2); have B2 := hid ((show Bk V.drew b e from BV.out).touch t2); clear t2)
        | (go_at_call 86; refine (HP.out _ T2.out).mono ?_; rintro r w3 ⟨rfl, t3⟩; have T3 := hid (T2.out.trans' t3); have b3 := B2.out.touch t3; have c2 := cell_at b3 (j := 2) rfl; have fz := froz_at b3; have B3 := hid b3; clear t3 b3))
      all_goals
        go_wp2_with fail
        go_end0
        rw [E.out]
        exact ⟨rfl, b_set B3.out rfl, (T3.out.mono (fun k hk => by simp at hk)).setCell (Or.inl (by simp)) _⟩
    by_cases y4 : Y = 110
    · subst y4
      have E : Hid (takeL e s.data.toList = { e with ca := piV X.data.toList }) := hid (by rw [HT.out]; rfl)
      have HI : Hid (∀ w', Calls Tryz.prog 106 #[.string ⟨#[99, 110, 114, 103, 104]⟩, .int .u8 110] w' fun e w'' => e = .returned (.int .i64 1) ∧ w'' = w') := hid (fun w' => Tryz.strings_IndexByte ⟨#[99, 110, 114, 103, 104]⟩ 110 w')
      have hix : ∀ w' : World, (Instr.index 123 (.agg #[.pointer (some ⟨b, 2, none⟩), .pointer (some ⟨b, 3, none⟩), .pointer (some ⟨b, 4, none⟩), .pointer (some ⟨b, 5, none⟩), .pointer (some ⟨b, 6, none⟩)]) (.int .i64 1)).run Tryz.prog w' = .ok (.pointer (some ⟨b, 3, none⟩)) w' := ixA b 1 (by omega)
      clear HT hY2 hY HF
      go_wp2_with fail
      refine (HI.out _).mono ?_
      rintro r w1 ⟨rfl, e1⟩
      rw [e1]
      clear e1 HI
      go_wp2_with fail
      go_region_with (first
        | (go_at_call 76; refine (HN.out _).mono ?_; rintro r w2 ⟨rfl, t2⟩; have T2 := hid (TV.out.drew.trans' t2); have B2 := hid ((show Bk V.drew b e from BV.out).touch t2); clear t2)
        | (go_at_call 86; refine (HP.out _ T2.out).mono ?_; rintro r w3 ⟨rfl, t3⟩; have T3 := hid (T2.out.trans' t3); have b3 := B2.out.touch t3; have c3 := cell_at b3 (j := 3) rfl; have fz := froz_at b3; have B3 := hid b3; clear t3 b3))
      all_goals
        go_wp2_with fail
        go_end0
        rw [E.out]
        exact ⟨rfl, b_set B3.out rfl, (T3.out.mono (fun k hk => by simp at hk)).setCell (Or.inl (by simp)) _⟩
    by_cases y5 : Y = 114
    · subst y5
      have E : Hid (takeL e s.data.toList = { e with ru := piV X.data.toList }) := hid (by rw [HT.out]; rfl)
      have HI : Hid (∀ w', Calls Tryz.prog 106 #[.string ⟨#[99, 110, 114, 103, 104]⟩, .int .u8 114] w' fun e w'' => e = .returned (.int .i64 2) ∧ w'' = w') := hid (fun w' => Tryz.strings_IndexByte ⟨#[99, 110, 114, 103, 104]⟩ 114 w')
      have hix : ∀ w' : World, (Instr.index 123 (.agg #[.pointer (some ⟨b, 2, none⟩), .pointer (some ⟨b, 3, none⟩), .pointer (some ⟨b, 4, none⟩), .pointer (some ⟨b, 5, none⟩), .pointer (some ⟨b, 6, none⟩)]) (.int .i64 2)).run Tryz.prog w' = .ok (.pointer (some ⟨b, 4, none⟩)) w' := ixA b 2 (by omega)
      clear HT hY2 hY HF
      go_wp2_with fail
      refine (HI.out _).mono ?_
      rintro r w1 ⟨rfl, e1⟩
      rw [e1]
      clear e1 HI
      go_wp2_with fail
      go_region_with (first
        | (go_at_call 76; refine (HN.out _).mono ?_; rintro r w2 ⟨rfl, t2⟩; have T2 := hid (TV.out.drew.trans' t2); have B2 := hid ((show Bk V.drew b e from BV.out).touch t2); clear t2)
        | (go_at_call 86; refine (HP.out _ T2.out).mono ?_; rintro r w3 ⟨rfl, t3⟩; have T3 := hid (T2.out.trans' t3); have b3 := B2.out.touch t3; have c4 := cell_at b3 (j := 4) rfl; have fz := froz_at b3; have B3 := hid b3; clear t3 b3))
      all_goals
        go_wp2_with fail
        go_end0
        rw [E.out]
        exact ⟨rfl, b_set B3.out rfl, (T3.out.mono (fun k hk => by simp at hk)).setCell (Or.inl (by simp)) _⟩
    by_cases y6 : Y = 103
    · subst y6
      have E : Hid (takeL e s.data.toList = { e with ge := piV X.data.toList }) := hid (by rw [HT.out]; rfl)
      have HI : Hid (∀ w', Calls Tryz.prog 106 #[.string ⟨#[99, 110, 114, 103, 104]⟩, .int .u8 103] w' fun e w'' => e = .returned (.int .i64 3) ∧ w'' = w') := hid (fun w' => Tryz.strings_IndexByte ⟨#[99, 110, 114, 103, 104]⟩ 103 w')
      have hix : ∀ w' : World, (Instr.index 123 (.agg #[.pointer (some ⟨b, 2, none⟩), .pointer (some ⟨b, 3, none⟩), .pointer (some ⟨b, 4, none⟩), .pointer (some ⟨b, 5, none⟩), .pointer (some ⟨b, 6, none⟩)]) (.int .i64 3)).run Tryz.prog w' = .ok (.pointer (some ⟨b, 5, none⟩)) w' := ixA b 3 (by omega)
      clear HT hY2 hY HF
      go_wp2_with fail
      refine (HI.out _).mono ?_
      rintro r w1 ⟨rfl, e1⟩
      rw [e1]
      clear e1 HI
      go_wp2_with fail
      go_region_with (first
        | (go_at_call 76; refine (HN.out _).mono ?_; rintro r w2 ⟨rfl, t2⟩; have T2 := hid (TV.out.drew.trans' t2); have B2 := hid ((show Bk V.drew b e from BV.out).touch t2); clear t2)
        | (go_at_call 86; refine (HP.out _ T2.out).mono ?_; rintro r w3 ⟨rfl, t3⟩; have T3 := hid (T2.out.trans' t3); have b3 := B2.out.touch t3; have c5 := cell_at b3 (j := 5) rfl; have fz := froz_at b3; have B3 := hid b3; clear t3 b3))
      all_goals
        go_wp2_with fail
        go_end0
        rw [E.out]
        exact ⟨rfl, b_set B3.out rfl, (T3.out.mono (fun k hk => by simp at hk)).setCell (Or.inl (by simp)) _⟩
    by_cases y7 : Y = 104
    · subst y7
      have E : Hid (takeL e s.data.toList = { e with ho := piV X.data.toList }) := hid (by rw [HT.out]; rfl)
      have HI : Hid (∀ w', Calls Tryz.prog 106 #[.string ⟨#[99, 110, 114, 103, 104]⟩, .int .u8 104] w' fun e w'' => e = .returned (.int .i64 4) ∧ w'' = w') := hid (fun w' => Tryz.strings_IndexByte ⟨#[99, 110, 114, 103, 104]⟩ 104 w')
      have hix : ∀ w' : World, (Instr.index 123 (.agg #[.pointer (some ⟨b, 2, none⟩), .pointer (some ⟨b, 3, none⟩), .pointer (some ⟨b, 4, none⟩), .pointer (some ⟨b, 5, none⟩), .pointer (some ⟨b, 6, none⟩)]) (.int .i64 4)).run Tryz.prog w' = .ok (.pointer (some ⟨b, 6, none⟩)) w' := ixA b 4 (by omega)
      clear HT hY2 hY HF
      go_wp2_with fail
      refine (HI.out _).mono ?_
      rintro r w1 ⟨rfl, e1⟩
      rw [e1]
      clear e1 HI
      go_wp2_with fail
      go_region_with (first
        | (go_at_call 76; refine (HN.out _).mono ?_; rintro r w2 ⟨rfl, t2⟩; have T2 := hid (TV.out.drew.trans' t2); have B2 := hid ((show Bk V.drew b e from BV.out).touch t2); clear t2)
        | (go_at_call 86; refine (HP.out _ T2.out).mono ?_; rintro r w3 ⟨rfl, t3⟩; have T3 := hid (T2.out.trans' t3); have b3 := B2.out.touch t3; have c6 := cell_at b3 (j := 6) rfl; have fz := froz_at b3; have B3 := hid b3; clear t3 b3))
      all_goals
        go_wp2_with fail
        go_end0
        rw [E.out]
        exact ⟨rfl, b_set B3.out rfl, (T3.out.mono (fun k hk => by simp at hk)).setCell (Or.inl (by simp)) _⟩
    · have hI : Hid (∀ w', Calls Tryz.prog 106 #[.string ⟨#[99, 110, 114, 103, 104]⟩, .int .u8 (Y : Int)] w' fun e w'' => e = .returned (.int .i64 (-1)) ∧ w'' = w') := hid (fun w' => by
        have := Tryz.strings_IndexByte ⟨#[99, 110, 114, 103, 104]⟩ (Y : Int) w'
        rw [ib5_no hY2 y3 y4 y5 y6 y7] at this
        exact this)
      have E : Hid (takeL e s.data.toList = e) := hid (by rw [HT.out, if_neg y1, if_neg y2, if_neg y3, if_neg y4, if_neg y5, if_neg y6, if_neg y7])
      have z1 : ((Y : Int) == 118) = false := by simp; omega
      have z2 : ((Y : Int) == 102) = false := by simp; omega
      have z1' : ¬ (Y : Int) = 118 := by omega
      have z2' : ¬ (Y : Int) = 102 := by omega
      clear HT hY HP HF HN
      go_wp2_with fail
      refine (hI.out _).mono ?_
      rintro r w1 ⟨rfl, e1⟩
      rw [e1]
      clear e1 hI
      go_wp2_with fail
      go_end0
      rw [E.out]
      exact ⟨rfl, BV.out, TV.out.mono (fun k hk => by simp at hk)⟩
end Go.Proofs.YtlffleigahfdlaaGreatDoor.Tr
