/- The program's look at an event, and what it answers; the condition is that the table holds what the start lays. -/
import Derived.Test.YtlffleigahfdlaaGreatDoorEvd
namespace Go.Proofs.YtlffleigahfdlaaGreatDoor.Tr
open Go.RowKit Go.Maps Go.ChangeMaps
set_option linter.unusedVariables false
set_option linter.unusedSimpArgs false
/-- An event in a box. -/
structure Ib (w : World) (b : Nat) (e : Ez) : Prop where
  c0 : w.cell? ⟨b, 0, none⟩ = some (.int .i64 e.at_)
  c1 : w.cell? ⟨b, 1, none⟩ = some (.int .i64 e.kd)
  c2 : w.cell? ⟨b, 2, none⟩ = some (.int .i64 e.cl)
  c3 : w.cell? ⟨b, 3, none⟩ = some (.int .i64 e.ca)
  c4 : w.cell? ⟨b, 4, none⟩ = some (.int .i64 e.ru)
  c5 : w.cell? ⟨b, 5, none⟩ = some (.int .i64 e.ge)
  c6 : w.cell? ⟨b, 6, none⟩ = some (.int .i64 e.ho)
  c7 : w.cell? ⟨b, 7, none⟩ = some (.int .u16 e.sp)
  c8 : w.cell? ⟨b, 8, none⟩ = some (.string e.nm)
  c9 : w.cell? ⟨b, 9, none⟩ = some (.int .i64 e.va)
  c10 : w.cell? ⟨b, 10, none⟩ = some (.int .i64 e.fk)
  c11 : w.cell? ⟨b, 11, none⟩ = some (.int .i64 e.fc)
  c12 : w.cell? ⟨b, 12, none⟩ = some (.int .i64 e.fr)
theorem Ib.touch {w w' : World} {b : Nat} {e : Ez} (h : Ib w b e) (t : Touch [] w w') : Ib w' b e :=
  ⟨tcell t h.c0, tcell t h.c1, tcell t h.c2, tcell t h.c3, tcell t h.c4, tcell t h.c5, tcell t h.c6, tcell t h.c7, tcell t h.c8, tcell t h.c9, tcell t h.c10, tcell t h.c11, tcell t h.c12⟩
theorem Ib.new (w : World) (e : Ez) (t : TypeId) : Ib (w.alloc (.cells #[.int .i64 e.at_, .int .i64 e.kd, .int .i64 e.cl, .int .i64 e.ca, .int .i64 e.ru, .int .i64 e.ge, .int .i64 e.ho, .int .u16 e.sp, .string e.nm, .int .i64 e.va, .int .i64 e.fk, .int .i64 e.fc, .int .i64 e.fr] t)) w.heap.size e := by
  constructor <;> simp
theorem chk_n (e : Ez) : chkN e = if atB e.at_ then (if isK e.kd then (if numsB e then (if outB e.kd e.out then (if keyB e.kd e.sp e.nm then 0 else 240) else 240) else 240) else 240) else 240 := by
  unfold chkN chkE
  cases atB e.at_ <;> cases isK e.kd <;> cases numsB e <;> cases outB e.kd e.out <;> cases keyB e.kd e.sp e.nm <;> rfl
set_option maxHeartbeats 1000000 in
theorem check_ (e : Ez) (w : World) (hk : Tk w) (hs : e.nm.size ≤ maxLen) : Calls Tryz.prog 12 #[e.val] w fun r w' => r = .returned (.int .i64 (chkN e)) ∧ Touch [] w w' := by
  have H1 : Hid _ := fun w' => is_ e.at_ w'
  have H2 : Hid _ := fun w' => isK_ e.kd w'
  have H3 : Hid _ := fun w' (t : Touch [] w w') => numMay_ e w' (hk.touch t)
  have H4 : Hid _ := fun w' (t : Touch [] w w') => outMay_ e w' (hk.touch t)
  have H5 : Hid _ := fun w' (t : Touch [] w w') => keyMay_ e w' (hk.touch t) hs
  have HE : Hid _ := chk_n e
  generalize chkN e = V at *
  obtain ⟨w0, hw0⟩ : ∃ w0, w0 = w.alloc (.cells #[.int .i64 e.at_, .int .i64 e.kd, .int .i64 e.cl, .int .i64 e.ca, .int .i64 e.ru, .int .i64 e.ge, .int .i64 e.ho, .int .u16 e.sp, .string e.nm, .int .i64 e.va, .int .i64 e.fk, .int .i64 e.fc, .int .i64 e.fr] 30) := ⟨_, rfl⟩
  have HB : Hid (Ib w0 w.heap.size e) := by show Ib _ _ _; rw [hw0]; exact Ib.new _ _ _
  have HT : Hid (Touch [] w w0) := by show Touch [] w w0; rw [hw0]; exact (Touch.refl [] w).alloc _
  clear hk hs
  generalize atB e.at_ = b1 at *
  generalize isK e.kd = b2 at *
  generalize numsB e = b3 at *
  generalize outB e.kd e.out = b4 at *
  generalize keyB e.kd e.sp e.nm = b5 at *
  unfold Ez.val at *
  obtain ⟨c0, c1, c2, c3, c4, c5, c6, c7, c8, c9, c10, c11, c12⟩ := HB.out
  go_enter Tryz.func12, Tryz.ntmps12
  go_wp2_with fail
  rw [← hw0]
  clear hw0
  refine (H1.out _).mono ?_
  rintro r w1 ⟨rfl, e1⟩
  rw [e1]
  clear e1 w1
  cases b1 with
  | false =>
    go_wp2_with fail
    go_ret
    exact ⟨by rw [HE.out]; rfl, HT.out⟩
  | true =>
    go_wp2_with fail
    refine (H2.out _).mono ?_
    rintro r w1 ⟨rfl, e1⟩
    rw [e1]
    clear e1 w1
    cases b2 with
    | false =>
      go_wp2_with fail
      go_ret
      exact ⟨by rw [HE.out]; rfl, HT.out⟩
    | true =>
      go_wp2_with fail
      refine (H3.out _ HT.out).mono ?_
      rintro r w1 ⟨rfl, t1⟩
      have T1 : Hid (Touch [] w w1) := HT.out.trans' t1
      have B1 : Hid (Ib w1 w.heap.size e) := HB.out.touch t1
      clear t1 HT HB c0 c1 c2 c3 c4 c5 c6 c7 c8 c9 c10 c11 c12
      obtain ⟨c0, c1, c2, c3, c4, c5, c6, c7, c8, c9, c10, c11, c12⟩ := B1.out
      cases b3 with
      | false =>
        go_wp2_with fail
        go_ret
        exact ⟨by rw [HE.out]; rfl, T1.out⟩
      | true =>
        go_wp2_with fail
        refine (H4.out _ T1.out).mono ?_
        rintro r w2 ⟨rfl, t2⟩
        have T2 : Hid (Touch [] w w2) := T1.out.trans' t2
        have B2 : Hid (Ib w2 w.heap.size e) := B1.out.touch t2
        clear t2 T1 B1 c0 c1 c2 c3 c4 c5 c6 c7 c8 c9 c10 c11 c12
        obtain ⟨c0, c1, c2, c3, c4, c5, c6, c7, c8, c9, c10, c11, c12⟩ := B2.out
        cases b4 with
        | false =>
          go_wp2_with fail
          go_ret
          exact ⟨by rw [HE.out]; rfl, T2.out⟩
        | true =>
          go_wp2_with fail
          refine (H5.out _ T2.out).mono ?_
          rintro r w3 ⟨rfl, t3⟩
          have T3 : Hid (Touch [] w w3) := T2.out.trans' t3
          clear t3 T2 B2 c0 c1 c2 c3 c4 c5 c6 c7 c8 c9 c10 c11 c12
          cases b5 with
          | false =>
            go_wp2_with fail
            go_ret
            exact ⟨by rw [HE.out]; rfl, T3.out⟩
          | true =>
            go_wp2_with fail
            go_ret
            exact ⟨by rw [HE.out]; rfl, T3.out⟩
end Go.Proofs.YtlffleigahfdlaaGreatDoor.Tr
