/- The program's look at an event, whole; the condition is that the table holds what the start lays. -/
import Derived.Test.YtlffleigahfdlaaGreatDoorEvc
namespace Go.Proofs.YtlffleigahfdlaaGreatDoor.Tr
open Go.RowKit Go.Maps Go.ChangeMaps
set_option linter.unusedVariables false
set_option linter.unusedSimpArgs false
theorem namK_ (e : Ez) (w : World) (hk : Tk w) : Calls Tryz.prog 66 #[e.val] w fun r w' => r = .returned (.bool (nmB e.kd 107)) ∧ Touch [] w w' := by
  have HN : Hid (∀ (w' : World), Touch [] w w' → Calls Tryz.prog 82 #[.int .i64 e.kd, .int .u8 107] w' fun r w'' => r = .returned (.bool (nmB e.kd 107)) ∧ w'' = w') := fun w' t => names_ e.kd 107 w' (hk.touch t)
  clear hk
  generalize nmB e.kd 107 = R at *
  unfold Ez.val
  go_enter Tryz.func66, Tryz.ntmps66
  go_wp2_with fail
  refine (HN.out _ ((Touch.refl [] w).alloc _)).mono ?_
  rintro r w1 ⟨rfl, e1⟩
  rw [e1]
  clear e1 w1
  go_wp2_with fail
  go_ret
  exact ⟨rfl, (Touch.refl [] w).alloc _⟩
theorem eqo (w : World) (v a b c : Int) : (binOp .eql 28 (.agg #[.int .i64 v, .int .i64 a, .int .i64 b, .int .i64 c]) (.agg #[.int .i64 0, .int .i64 0, .int .i64 0, .int .i64 0])).run Tryz.prog w = .ok (.bool (decide (v = 0) && nonF a b c)) w := by
  unfold nonF
  by_cases h0 : v = 0
  · by_cases h1 : a = 0
    · by_cases h2 : b = 0
      · by_cases h3 : c = 0
        · go_simp
        · go_simp
      · go_simp
    · go_simp
  · go_simp
theorem eqk (w : World) (sp : Int) (nm : ByteArray) : (binOp .eql 24 (.agg #[.int .u16 sp, .string nm]) (.agg #[.int .u16 0, .string ⟨#[]⟩])).run Tryz.prog w = .ok (.bool (zeroK sp nm)) w := by
  unfold zeroK
  by_cases h0 : sp = 0
  · by_cases h1 : nm.toList = []
    · go_simp
    · go_simp
  · go_simp
theorem outMay_ (e : Ez) (w : World) (hk : Tk w) : Calls Tryz.prog 46 #[e.val] w fun r w' => r = .returned (.bool (outB e.kd e.out)) ∧ Touch [] w w' := by
  have HN : Hid (∀ (w' : World), Touch [] w w' → Calls Tryz.prog 82 #[.int .i64 e.kd, .int .u8 118] w' fun r w'' => r = .returned (.bool (nmB e.kd 118)) ∧ w'' = w') := fun w' t => names_ e.kd 118 w' (hk.touch t)
  have HR : Hid (∀ w', Calls Tryz.prog 83 #[.agg #[.int .i64 e.va, .int .i64 e.fk, .int .i64 e.fc, .int .i64 e.fr]] w' fun r w'' => r = .returned (.bool (right e.out)) ∧ Touch [] w' w'') := fun w' => right32 w' e.out
  have HQ := fun w => eqo w e.va e.fk e.fc e.fr
  clear hk
  have HO : Hid (outB e.kd e.out = if nmB e.kd 118 then right e.out else decide (e.va = 0) && nonF e.fk e.fc e.fr) := rfl
  generalize outB e.kd e.out = V at *
  generalize right e.out = R at *
  generalize hz : (decide (e.va = 0) && nonF e.fk e.fc e.fr) = Z at *
  clear hz
  generalize nmB e.kd 118 = b at *
  unfold Ez.val
  cases b with
  | true =>
    go_enter Tryz.func46, Tryz.ntmps46
    go_wp2_with fail
    refine (HN.out _ ((Touch.refl [] w).alloc _)).mono ?_
    rintro r w1 ⟨rfl, e1⟩
    rw [e1]
    clear e1 w1
    go_wp2_with fail
    refine (HR.out _).mono ?_
    rintro r w2 ⟨rfl, t2⟩
    go_wp2_with fail
    go_ret
    exact ⟨by rw [HO.out]; rfl, ((Touch.refl [] w).alloc _).trans' t2⟩
  | false =>
    go_enter Tryz.func46, Tryz.ntmps46
    go_wp2_with fail
    refine (HN.out _ ((Touch.refl [] w).alloc _)).mono ?_
    rintro r w1 ⟨rfl, e1⟩
    rw [e1]
    clear e1 w1
    go_wp2_with fail
    go_ret
    exact ⟨by rw [HO.out]; rfl, (Touch.refl [] w).alloc _⟩
theorem kchk_ (sp : Int) (nm : ByteArray) (w : World) (hs : nm.size ≤ maxLen) : Calls Tryz.prog 84 #[.agg #[.int .u16 sp, .string nm]] w fun e w' => e = .returned (.int .i64 (if nm.size ≤ 64 then 0 else 20)) ∧ Touch [] w w' := by
  have HS : Hid (nm.size ≤ maxLen) := hs
  clear hs
  by_cases h : nm.size ≤ 64
  · rw [if_pos h]
    have h' : ¬ (64 : Int) < (nm.size : Int) := by omega
    clear h
    go_enter Tryz.func84, Tryz.ntmps84
    go_wp2
    go_ret
    exact ⟨rfl, (Touch.refl [] _).alloc _⟩
  · rw [if_neg h]
    have h' : (64 : Int) < (nm.size : Int) := by omega
    clear h
    go_enter Tryz.func84, Tryz.ntmps84
    go_wp2
    go_ret
    exact ⟨rfl, (Touch.refl [] _).alloc _⟩
theorem keyMay_ (e : Ez) (w : World) (hk : Tk w) (hs : e.nm.size ≤ maxLen) : Calls Tryz.prog 47 #[e.val] w fun r w' => r = .returned (.bool (keyB e.kd e.sp e.nm)) ∧ Touch [] w w' := by
  have HN : Hid (∀ (w' : World), Touch [] w w' → Calls Tryz.prog 66 #[e.val] w' fun r w'' => r = .returned (.bool (nmB e.kd 107)) ∧ Touch [] w' w'') := fun w' t => namK_ e w' (hk.touch t)
  have HR : Hid (∀ w', Calls Tryz.prog 84 #[.agg #[.int .u16 e.sp, .string e.nm]] w' fun r w'' => r = .returned (.int .i64 (if e.nm.size ≤ 64 then 0 else 20)) ∧ Touch [] w' w'') := fun w' => kchk_ e.sp e.nm w' hs
  have HQ := fun w => eqk w e.sp e.nm
  have HO : Hid (keyB e.kd e.sp e.nm = if nmB e.kd 107 then decide (e.nm.size ≤ 64) else zeroK e.sp e.nm) := rfl
  obtain ⟨w0, hw0⟩ : ∃ w0, w0 = w.alloc (.cells #[.int .i64 e.at_, .int .i64 e.kd, .int .i64 e.cl, .int .i64 e.ca, .int .i64 e.ru, .int .i64 e.ge, .int .i64 e.ho, .int .u16 e.sp, .string e.nm, .int .i64 e.va, .int .i64 e.fk, .int .i64 e.fc, .int .i64 e.fr] 30) := ⟨_, rfl⟩
  have HB : Hid (∀ w', Touch [] w0 w' → w'.cell? ⟨w.heap.size, 7, none⟩ = some (.int .u16 e.sp) ∧ w'.cell? ⟨w.heap.size, 8, none⟩ = some (.string e.nm)) := fun w' t => by
    have c : ∀ i v, w0.cell? ⟨w.heap.size, i, none⟩ = some v → w'.cell? ⟨w.heap.size, i, none⟩ = some v := fun i v h => tcell t h
    rw [hw0] at c
    exact ⟨c 7 _ (by simp), c 8 _ (by simp)⟩
  have HT : Hid (Touch [] w w0) := by show Touch [] w w0; rw [hw0]; exact (Touch.refl [] w).alloc _
  clear hk hs
  generalize keyB e.kd e.sp e.nm = V at *
  generalize zeroK e.sp e.nm = Z at *
  generalize nmB e.kd 107 = b at *
  unfold Ez.val at *
  cases b with
  | true =>
    by_cases h : e.nm.size ≤ 64
    · rw [if_pos h] at HR
      go_enter Tryz.func47, Tryz.ntmps47
      go_wp2_with fail
      rw [← hw0]
      clear hw0
      refine (HN.out _ HT.out).mono ?_
      rintro r w1 ⟨rfl, t1⟩
      obtain ⟨c7, c8⟩ := HB.out _ t1
      have T1 : Hid (Touch [] w w1) := HT.out.trans' t1
      clear t1
      go_wp2_with fail
      refine (HR.out _).mono ?_
      rintro r w2 ⟨rfl, t2⟩
      go_wp2_with fail
      go_ret
      exact ⟨by rw [HO.out]; simp [h], T1.out.trans' t2⟩
    · rw [if_neg h] at HR
      go_enter Tryz.func47, Tryz.ntmps47
      go_wp2_with fail
      rw [← hw0]
      clear hw0
      refine (HN.out _ HT.out).mono ?_
      rintro r w1 ⟨rfl, t1⟩
      obtain ⟨c7, c8⟩ := HB.out _ t1
      have T1 : Hid (Touch [] w w1) := HT.out.trans' t1
      clear t1
      go_wp2_with fail
      refine (HR.out _).mono ?_
      rintro r w2 ⟨rfl, t2⟩
      go_wp2_with fail
      go_ret
      exact ⟨by rw [HO.out]; simp [h], T1.out.trans' t2⟩
  | false =>
    go_enter Tryz.func47, Tryz.ntmps47
    go_wp2_with fail
    rw [← hw0]
    clear hw0
    refine (HN.out _ HT.out).mono ?_
    rintro r w1 ⟨rfl, t1⟩
    obtain ⟨c7, c8⟩ := HB.out _ t1
    have T1 : Hid (Touch [] w w1) := HT.out.trans' t1
    clear t1
    go_wp2_with fail
    go_ret
    exact ⟨by rw [HO.out]; rfl, T1.out⟩
end Go.Proofs.YtlffleigahfdlaaGreatDoor.Tr
