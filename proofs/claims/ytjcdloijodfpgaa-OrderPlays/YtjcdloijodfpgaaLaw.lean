/- Of every bound and every list of acts: an order is what the document's is: the walk of the law; the list's length is within the form's reach. -/
import Derived.Test.YtjcdloijodfpgaaPly
import Derived.Test.YtjcdloijodfpgaaOpa
import Derived.Deep.CutRange
import Derived.Deep.CutBlock
namespace Go.Proofs.Ytjcdloijodfpgaa
open Go.RowKit Go.Sort Go.Maps Go.ChangeMaps Go.WideMaps
set_option linter.unusedVariables false
set_option linter.unusedSimpArgs false
attribute [local go_sem] Oper.semAt_some
theorem ok_zero : Ok ((0, ⟨#[]⟩) : K) := ⟨by show (Lit.int .u16 0).wf = true; decide, by show (0 : Nat) ≤ maxLen; unfold maxLen; omega⟩
set_option maxHeartbeats 4000000 in
theorem law3_no (w : World) (most : Int) (v : Value) (av : Option Addr) (A cv : Nat) (hv : v = .slice av A cv) (hg : ¬ (0 ≤ most ∧ most ≤ 65536)) :
    Calls Try.prog 3 #[.int .i64 most, v] w fun e w' => e = .returned (.bool true) ∧ Touch [] w w' := by
  subst hv
  have HN := hid (fun w => new6_no w most hg)
  have HM := hid (fun w => may8 w most)
  have hb : (decide (0 ≤ most) && decide (most ≤ 65536)) = false := by simp; omega
  rw [hb] at HM
  by_cases hA : 0 < A
  · have zA : (0 : Int) < (A : Int) := by omega
    clear hb hg
    go_enter Try.func3, Try.ntmps3
    go_wp2_with (first
      | (go_at_call 6; refine (HN.out _).mono ?_; rintro e w1 ⟨rfl, e1⟩; rw [e1]; clear e1 w1)
      | (go_at_call 7; refine (awake7 _).mono ?_; rintro e w2 ⟨rfl, t2⟩; have T2 := hid t2; clear t2)
      | (go_at_call 8; refine (HM.out _).mono ?_; rintro e w3 ⟨rfl, e3⟩; rw [e3]; clear e3 w3))
    go_loopw [5, 8] (fun s5 s8 wr => s5 = .pointer none ∧ s8 = .int .i64 0 ∧ Hid (Touch [] w wr)) (fun _ _ _ => 0)
    case atStart => exact ⟨rfl, rfl, hid (T2.out.alloc _)⟩
    case round =>
      obtain ⟨rfl, rfl, HR⟩ := hrel
      go_wp2_with fail
      go_ret
      exact ⟨rfl, HR.out⟩
  · have zA : A = 0 := by omega
    subst zA
    clear hb hg hA
    go_enter Try.func3, Try.ntmps3
    go_wp2_with (first
      | (go_at_call 6; refine (HN.out _).mono ?_; rintro e w1 ⟨rfl, e1⟩; rw [e1]; clear e1 w1)
      | (go_at_call 7; refine (awake7 _).mono ?_; rintro e w2 ⟨rfl, t2⟩; have T2 := hid t2; clear t2)
      | (go_at_call 8; refine (HM.out _).mono ?_; rintro e w3 ⟨rfl, e3⟩; rw [e3]; clear e3 w3))
    go_loopw [5, 8] (fun s5 s8 wr => s5 = .pointer none ∧ s8 = .int .i64 0 ∧ Hid (Touch [] w wr)) (fun _ _ _ => 0)
    case atStart => exact ⟨rfl, rfl, hid (T2.out.alloc _)⟩
    case round =>
      obtain ⟨rfl, rfl, HR⟩ := hrel
      go_wp2_with fail
      go_ret
      exact ⟨rfl, HR.out⟩
set_option maxHeartbeats 4000000 in
set_option maxRecDepth 100000 in
theorem law3_ok (w : World) (m0 : Int) (xs : List ActK) (v : Value) (h0 : 0 ≤ m0) (h1 : m0 ≤ 65536) (hv : SlA w v xs) (hw : ∀ x ∈ xs, WfA x) (hL : xs.length ≤ 3518437208780) :
    Calls Try.prog 3 #[.int .i64 m0, v] w fun e w' => e = .returned (.bool true) ∧ Touch [] w w' := by
  obtain ⟨avv, cv, rfl⟩ : ∃ av cv, v = .slice av xs.length cv := by
    rcases hv with ⟨rfl, a, c, rfl⟩ | ⟨b, off, cap, rfl, _⟩
    · exact ⟨a, c, rfl⟩
    · exact ⟨_, _, rfl⟩
  have HRow : Hid (xs.length = 0 ∨ ∃ b off, avv = some ⟨b, off, none⟩ ∧ RowA w b off xs) := by
    rcases hv with ⟨rfl, _⟩ | ⟨b, off, cap, e, r⟩
    · exact Or.inl rfl
    · injection e with e1 e2 e3
      exact Or.inr ⟨b, off, e1, r⟩
  have HWf := hid hw
  clear hv hw
  obtain ⟨A, hA⟩ : ∃ A, A = xs.length := ⟨_, rfl⟩
  have HAx := hid hA
  rw [← hA] at HRow hL ⊢
  clear hA
  have HN := hid (fun w => new6_ok w m0 h0 h1)
  have HM := hid (fun w => may8 w m0)
  have hb : (decide (0 ≤ m0) && decide (m0 ≤ 65536)) = true := by simp; omega
  rw [hb] at HM
  clear hb
  unfold PT at HN
  go_enter Try.func3, Try.ntmps3
  go_upto_block 0 with (first
    | (go_at_call 6; refine (HN.out _).mono ?_; rintro e w1 ⟨rfl, h1, t1⟩; have H1 := hid h1; have T1 := hid t1; clear h1 t1)
    | (go_at_call 7; refine (awake7 _).mono ?_; rintro e w2 ⟨rfl, t2⟩; have T2 := hid t2; clear t2)
    | (go_at_call 8; refine (HM.out _).mono ?_; rintro e w3 ⟨rfl, e3⟩; rw [e3]; clear e3 w3))
  obtain ⟨o, ho⟩ : ∃ o, o = w.heap.size := ⟨_, rfl⟩
  obtain ⟨V, hV⟩ : ∃ V, V = w2.alloc (.cells #[.int .i64 m0, .slice none 0 0] 31) := ⟨_, rfl⟩
  have HI : Hid (PlQ w o w2.heap.size V) := by
    have h1 : Od w1 o none m0 [] := by rw [ho]; exact H1.out
    have t12 : Touch [] w V := by
      rw [hV]
      exact (T1.out.trans' T2.out).alloc _
    have h2 : Od V o none m0 [] := by
      rw [hV]
      exact h1.keep0 (T2.out.alloc _)
    have hz2 := (T1.out.trans' T2.out).size
    refine ⟨m0, [], none, 0, 0, ⟨[o], ⟨none, [], rfl, rfl, h2⟩, fun k hk => ?_⟩, ?_, RK.nil _, by omega, by omega, by simpa using h0, t12, by omega⟩
    · simp only [List.mem_singleton] at hk
      omega
    · rw [hV]
      exact heap_alloc_new w2 _
  rw [← ho, ← hV]
  clear hV H1 T1 T2 HN HM ho
  generalize w2.heap.size = b7 at *
  go_cut [5, 8] from 9 to 74 (fun s5 s8 wx => ∃ o1, s5 = .pointer (some ⟨o1, 0, none⟩) ∧ Hid (PlQ w o1 b7 wx))
  case first =>
    go_wp2_with fail
    go_loopw [5, 8] (fun s5 s8 wr => ∃ (o1 m : Nat), s5 = .pointer (some ⟨o1, 0, none⟩) ∧ s8 = .int .i64 (m : Int) ∧ m ≤ A ∧ Hid (PlQ w o1 b7 wr)) (fun _ i _ => A - (intOf i).toNat)
    case atStart => exact ⟨o, 0, rfl, rfl, Nat.zero_le _, HI⟩
    case round =>
      clear HI
      obtain ⟨o1, m, rfl, rfl, hm, HR⟩ := hrel
      by_cases hlt : m < A
      · have zk : (m : Int) < (A : Int) := by omega
        have zA : (A : Int) ≤ 3518437208780 := by omega
        obtain ⟨ba, off, rfl, hrow⟩ : ∃ ba off, avv = some ⟨ba, off, none⟩ ∧ RowA w ba off xs := by
          rcases HRow.out with e | e
          · omega
          · exact e
        have hnx : m < xs.length := by have := HAx.out; omega
        have HRw : Hid (∀ w', Touch [] w w' → w'.cell? ⟨ba, off + m * 4, none⟩ = some (.int .i64 xs[m].kd) ∧ w'.cell? ⟨ba, off + m * 4 + 1, none⟩ = some (.int .i64 xs[m].nn) ∧ w'.cell? ⟨ba, off + m * 4 + 2, none⟩ = some (.int .u16 xs[m].k.1) ∧ w'.cell? ⟨ba, off + m * 4 + 3, none⟩ = some (.string xs[m].k.2)) := fun w' t => ⟨(hrow.keep t).c0 m hnx, (hrow.keep t).c1 m hnx, (hrow.keep t).c2 m hnx, (hrow.keep t).c3 m hnx⟩
        have HWx := hid (HWf.out xs[m] (List.getElem_mem hnx))
        clear hrow
        generalize xs[m] = ac at *
        clear hnx
        obtain ⟨kd, nn, k⟩ := ac
        simp only at HRw
        have HK := hid HWx.out.2.2
        have HNn := hid (And.intro hm hlt)
        clear hm hlt HWx
        simp only at HK
        go_upto_block 1 with fail
        go_upto_region 9 with fail
        obtain ⟨most, ys, a, n, c, hp⟩ := HR.out
        clear HR
        obtain ⟨p0, p1⟩ := hp.cells
        obtain ⟨q0, q1, q2, q3⟩ := HRw.out _ hp.t
        have HO := hid (fun w' (t : Touch [] wr w') => (hp.keep t).one kd nn k HK.out)
        unfold PT rv av at HO
        clear hp
        go_cut [5, 9] from 51 to 61 (fun s5 s9 wx => ∃ o2, s5 = .pointer (some ⟨o2, 0, none⟩) ∧ s9 = .bool true ∧ Hid (PlQ w o2 b7 wx))
        case first =>
          have t3 : Touch [] wr wr.drew := (Touch.refl _ _).drew
          go_region_with (go_at_call 9; refine (HO.out _ t3).mono ?_; rintro e w4 ⟨o4, m4, a4, n4, c4, rfl, r5, h4⟩; have x0 : w4.cell? ⟨b7, 0, none⟩ = some (.int .i64 most) := (by simp [World.cell?, r5]); have x1 : w4.cell? ⟨b7, 1, none⟩ = some (.slice a n c) := (by simp [World.cell?, r5]); have x2 : w4.frozen? ⟨b7, 0, none⟩ = false := (by simp [World.frozen?, r5]); have x3 : w4.frozen? ⟨b7, 1, none⟩ = false := (by simp [World.frozen?, r5]); have H4 := hid h4; clear h4 r5)
          all_goals
            go_wp2_with fail
            go_meet
            case rel => exact ⟨o4, rfl, rfl, H4⟩
        case rest =>
          clear p0 p1 q0 q1 q2 q3 HO
          obtain ⟨o2, rfl, rfl, HR⟩ := hcut
          obtain ⟨most, ys, a, n, c, hp⟩ := HR.out
          have hp' := hid hp
          have sA : ∀ w', Touch [] wc w' → w'.cell? ⟨b7, 0, none⟩ = some (.int .i64 most) := fun w' t => (hp'.out.keep t).cells.1
          have sB : ∀ w', Touch [] wc w' → w'.cell? ⟨b7, 1, none⟩ = some (.slice a n c) := fun w' t => (hp'.out.keep t).cells.2
          have sC : ∀ w', Touch [] wc w' → w'.cell? ⟨ba, off + m * 4 + 2, none⟩ = some (.int .u16 k.1) := fun w' t => (HRw.out w' (hp'.out.t.trans' t)).2.2.1
          have sD : ∀ w', Touch [] wc w' → w'.cell? ⟨ba, off + m * 4 + 3, none⟩ = some (.string k.2) := fun w' t => (HRw.out w' (hp'.out.t.trans' t)).2.2.2
          have HY := hid (fun w' (t : Touch [] wc w') => (hp'.out.keep t).says k HK.out)
          unfold PT rv kv at HY
          clear hp
          go_upto_region 10 with fail
          refine wp_region_H (S := fun w' => Touch [] wc w') (by kernel_rfl) ?_
          have hS0 : Touch [] wc wc.drew := (Touch.refl _ _).drew
          refine wpH_take (i := 0) (v := .bool true) (some 62) rfl rfl (by kernel_rfl) (by kernel_rfl) (by kernel_rfl) (fun _ _ _ h => h) (Or.inl ⟨by rfl, fun w' hS => (by go_simp)⟩) hS0 ?_
          try simp only [Go.Act.put, List.setIfInBounds_toArray, List.set_cons_zero, List.set_cons_succ]
          refine wpH_take (i := 1) (v := .bool false) (some 63) rfl rfl (by kernel_rfl) (by kernel_rfl) (by kernel_rfl) (fun _ _ _ h => h) (Or.inl ⟨by rfl, fun w' hS => (by go_simp)⟩) hS0 ?_
          try simp only [Go.Act.put, List.setIfInBounds_toArray, List.set_cons_zero, List.set_cons_succ]
          refine wpH_take (i := 2) (v := .bool false) (some 64) rfl rfl (by kernel_rfl) (by kernel_rfl) (by kernel_rfl) (fun _ _ _ h => h) (Or.inl ⟨by rfl, fun w' hS => (by go_simp)⟩) hS0 ?_
          try simp only [Go.Act.put, List.setIfInBounds_toArray, List.set_cons_zero, List.set_cons_succ]
          refine wpH_take (i := 3) (v := .pointer (some ⟨o2, 0, none⟩)) (some 65) rfl rfl (by kernel_rfl) (by kernel_rfl) (by kernel_rfl) (fun _ _ _ h => h) (Or.inl ⟨by rfl, fun w' hS => (by go_simp)⟩) hS0 ?_
          try simp only [Go.Act.put, List.setIfInBounds_toArray, List.set_cons_zero, List.set_cons_succ]
          refine wpH_take (i := 4) (v := .agg #[.int .i64 most, .slice a n c]) (some 66) rfl rfl (by kernel_rfl) (by kernel_rfl) (by kernel_rfl) (fun _ _ _ h => h) (Or.inl ⟨by rfl, fun w' hS => (by have z0 := sA _ hS; have z1 := sB _ hS; go_simp)⟩) hS0 ?_
          try simp only [Go.Act.put, List.setIfInBounds_toArray, List.set_cons_zero, List.set_cons_succ]
          refine wpH_take (i := 5) (v := .slice (some ⟨ba, off, none⟩) A cv) (some 67) rfl rfl (by kernel_rfl) (by kernel_rfl) (by kernel_rfl) (fun _ _ _ h => h) (Or.inl ⟨by rfl, fun w' hS => (by go_simp)⟩) hS0 ?_
          try simp only [Go.Act.put, List.setIfInBounds_toArray, List.set_cons_zero, List.set_cons_succ]
          refine wpH_take (i := 6) (v := .int .i64 (m : Int)) (some 68) rfl rfl (by kernel_rfl) (by kernel_rfl) (by kernel_rfl) (fun _ _ _ h => h) (Or.inl ⟨by rfl, fun w' hS => (by go_simp)⟩) hS0 ?_
          try simp only [Go.Act.put, List.setIfInBounds_toArray, List.set_cons_zero, List.set_cons_succ]
          refine wpH_take (i := 7) (v := .pointer (some ⟨ba, off + m * 4, none⟩)) (some 69) rfl rfl (by kernel_rfl) (by kernel_rfl) (by kernel_rfl) (fun _ _ _ h => h) (Or.inl ⟨by rfl, fun w' hS => (by go_simp)⟩) hS0 ?_
          try simp only [Go.Act.put, List.setIfInBounds_toArray, List.set_cons_zero, List.set_cons_succ]
          refine wpH_take (i := 8) (v := .pointer (some ⟨ba, off + m * 4 + 2, none⟩)) (some 70) rfl rfl (by kernel_rfl) (by kernel_rfl) (by kernel_rfl) (fun _ _ _ h => h) (Or.inl ⟨by rfl, fun w' hS => (by go_simp)⟩) hS0 ?_
          try simp only [Go.Act.put, List.setIfInBounds_toArray, List.set_cons_zero, List.set_cons_succ]
          refine wpH_take (i := 9) (v := .agg #[.int .u16 k.1, .string k.2]) (some 71) rfl rfl (by kernel_rfl) (by kernel_rfl) (by kernel_rfl) (fun _ _ _ h => h) (Or.inl ⟨by rfl, fun w' hS => (by have z0 := sC _ hS; have z1 := sD _ hS; go_simp)⟩) hS0 ?_
          try simp only [Go.Act.put, List.setIfInBounds_toArray, List.set_cons_zero, List.set_cons_succ]
          refine wpH_call (i := 10) (o := { dst := some 72, op := Op.call { callee := Callee.value (Operand.func 10), args := #[Operand.tmp 65, Operand.tmp 66, Operand.tmp 71], argTypes := #[23, 31, 36] }, type := 4, pos := _, after := #[{ on := 3, ground := Ground.data }, { on := 4, ground := Ground.data }, { on := 9, ground := Ground.data }, { on := 2, ground := Ground.chain }, { on := 2, ground := Ground.guard }], guard := some (2, false) }) (by kernel_rfl) rfl (fun K' hK => ?_)
          rw [if_pos (by rfl)]
          go_simp
          refine (HY.out _ hS0).mono ?_
          rintro e w6 ⟨rfl, t6⟩
          have hS6 := hS0.trans' t6
          clear t6
          refine hK.out _ _ hS6 ?_
          clear hK
          try simp only [Go.Act.put, List.setIfInBounds_toArray, List.set_cons_zero, List.set_cons_succ]
          refine wpH_take (i := 11) (v := .bool false) (some 73) rfl rfl (by kernel_rfl) (by kernel_rfl) (by kernel_rfl) (fun _ _ _ h => h) (Or.inl ⟨by rfl, fun w' hS => (by go_simp)⟩) hS6 ?_
          try simp only [Go.Act.put, List.setIfInBounds_toArray, List.set_cons_zero, List.set_cons_succ]
          refine wpH_take (i := 12) (v := .bool false) (some 74) rfl rfl (by kernel_rfl) (by kernel_rfl) (by kernel_rfl) (fun _ _ _ h => h) (Or.inl ⟨by rfl, fun w' hS => (by go_simp)⟩) hS6 ?_
          try simp only [Go.Act.put, List.setIfInBounds_toArray, List.set_cons_zero, List.set_cons_succ]
          refine wpAnyH_done (by kernel_rfl) ?_ _
          have HE : Hid (PlQ w o2 b7 w6) := ⟨most, ys, a, n, c, hp'.out.keep hS6⟩
          clear sA sB sC sD HY hS0 hS6 hp' HR
          go_wp2_with fail
          go_roundw
          case rel => exact ⟨o2, m + 1, rfl, by go_num, by have := HNn.out; omega, HE⟩
          case measure => simp [intOf]; have := HNn.out; omega
      · have zk : (A : Int) ≤ (m : Int) := by omega
        go_wp2_with fail
        go_meet
        case rel => exact ⟨o1, rfl, HR⟩
  case rest =>
    clear HI
    obtain ⟨o1, rfl, HR⟩ := hcut
    obtain ⟨most, ys, a, n, c, hp⟩ := HR.out
    have HP := hid hp
    obtain ⟨p0, p1⟩ := hp.cells
    have HY := hid (hp.says (0, ⟨#[]⟩) ok_zero)
    unfold PT rv kv at HY
    clear hp HR
    go_wp2_with (go_at_call 10; refine HY.out.mono ?_; rintro e w8 ⟨rfl, t8⟩; have T8 := hid t8; clear t8)
    go_ret
    exact ⟨rfl, HP.out.t.trans' T8.out⟩
theorem law3 (w : World) (m0 : Int) (xs : List ActK) (v : Value) (hv : SlA w v xs) (hw : ∀ x ∈ xs, WfA x) (hL : xs.length ≤ 3518437208780) :
    Calls Try.prog 3 #[.int .i64 m0, v] w fun e w' => e = .returned (.bool true) ∧ Touch [] w w' := by
  by_cases hg : 0 ≤ m0 ∧ m0 ≤ 65536
  · exact law3_ok w m0 xs v hg.1 hg.2 hv hw hL
  · rcases hv with ⟨_, a, c, e⟩ | ⟨b, off, cap, e, _⟩
    · exact law3_no w m0 v a 0 c e hg
    · exact law3_no w m0 v _ _ cap e hg
end Go.Proofs.Ytjcdloijodfpgaa
