/- The contract of a trace's Add; the condition is that the table holds what the start lays. -/
import Derived.Test.YtcdikdiopklcgaaGreatDoorEvw
import Derived.Deep.AppendLies
namespace Go.Proofs.YtcdikdiopklcgaaGreatDoor.Tr
open Go.RowKit Go.Sort Go.Shelf Go.Maps Go.ChangeMaps
set_option linter.unusedVariables false
set_option linter.unusedSimpArgs false
/-- A slice that can be read, laid behind a row that a call owns: at the operation. -/
theorem wp_append_rs {w : World} {o : Oper} {a : Act} {K : Act → World → Prop} {Q : Exit → Act → World → Prop} (s x : Operand) (st et : TypeId) (ho : o.op = .call { callee := .builtin .append, args := #[s, x], argTypes := #[st, st] })
    (z : Value) (k bytes : Nat) (hinfo : (Tryz.prog.info? et).map (fun i => (i.zero, i.size, i.bytes)) = some (some z, k, bytes)) (ht : Tryz.prog.underlying st = some (.slice et)) (hzs : z.cells.size = k) (hk : 0 < k)
    (base : Nat) (v : Value) (n : Nat) (xs : List Value) (hs : a.eval s = v) (hown : w.ownsRow base et k v n xs)
    (u : Value) (m : Nat) (vs : List Value) (hx : a.eval x = u) (hu : Rs et k w u m vs) (h1 : ∀ y ∈ vs, y.oneCell' = true) (h63 : n + m ≤ maxLen) (hbytes : (n + m) * bytes ≤ 140737488355328) (hbase : base ≤ w.heap.size)
    (h : ∀ v' w', w'.ownsRow base et k v' (n + m) (xs ++ vs) → w.grownBy w' v.ownBlock → (v'.ownBlock = v.ownBlock ∨ v'.ownBlock = some w.heap.size) → K (a.put o.dst v') w') : o.wp Tryz.prog a w K Q := by
  obtain ⟨i3, hf, hz0, hz1, hz2⟩ := info_parts hinfo
  obtain ⟨hl, ad, c, rfl, hc, hn0, hr⟩ := hu
  cases ad with
  | none =>
    have e0 := hn0 rfl
    subst e0
    have em : m = 0 := by omega
    subst em
    have ev : vs = [] := List.length_eq_zero_iff.1 (by omega)
    subst ev
    have hrun := run_append_owned_none (P := Tryz.prog) (w := w) base st o.type et i3 k ht hf v n xs hown
    unfold Oper.wp
    simp [execOp, ho, resolve, invoke, builtin, hs, hx, hrun, Result.andThen]
    exact h v w (by simpa using hown) (World.grownBy.refl _ _) (Or.inl rfl)
  | some ad =>
    have hnews : ∀ j y, vs[j]? = some y → w.cell? (ad.add j) = some y := fun j y hy => by
      have hm : 0 < m := by
        rcases Nat.eq_zero_or_pos m with e | e
        · subst e
          have : vs = [] := List.length_eq_zero_iff.1 (by omega)
          subst this
          simp at hy
        · exact e
      obtain ⟨g, off, e, cs, zz, h5, h6⟩ := hr hm
      cases e
      rw [show (⟨g, off, none⟩ : Addr).add j = ⟨g, off + j, none⟩ by simp [Addr.add]]
      simp [World.cell?, h5, h6 j y hy]
    obtain ⟨v', w', hrun, q1, q2, q3, q4⟩ := run_append_own_at (P := Tryz.prog) w base st o.type et i3 z k bytes ht hf hz0 hz1 hz2 hzs hk v n xs hown ad m c vs hl hnews h1 h63 hbytes hbase
    unfold Oper.wp
    simp [execOp, ho, resolve, invoke, builtin, hs, hx, hrun, Result.andThen]
    exact h v' w' q1 q2 q4
def lastB (L : List Ez) (e : Ez) : Bool := match L.getLast? with | some x => decide (e.at_ < x.at_) | none => false
/-- what an Add answers -/
def addN (L : List Ez) (e : Ez) : Int := if chkE e then (if L.length = 1048576 then 3 else if lastB L e then 101 else 0) else 240
theorem Tq.lt {w : World} {B b : Nat} {v : Value} {L : List Ez} (h : Tq w B b v L) : b < w.heap.size := block_lt h.bx
/-- what an Add leaves that lays an event -/
def AddP (w' w : World) (B b : Nat) (v : Value) (L : List Ez) (e : Ez) : Prop := ∃ v', Tq w' B b v' (L ++ [e]) ∧ Touch (b :: v.ownBlock.toList) w w' ∧ ∀ q, v'.ownBlock = some q → v.ownBlock = some q ∨ w.heap.size ≤ q
def AddQ (r : Ending) (w' w : World) (B b : Nat) (v : Value) (L : List Ez) (e : Ez) : Prop := r = .returned (.int .i64 (addN L e)) ∧ ((addN L e ≠ 0 ∧ Touch [] w w') ∨ (addN L e = 0 ∧ AddP w' w B b v L e))
theorem addQ_ok {w w' : World} {B b : Nat} {v : Value} {L : List Ez} {e : Ez} (h : addN L e = 0) (p : AddP w' w B b v L e) : AddQ (.returned (.int .i64 0)) w' w B b v L e := ⟨by rw [h], Or.inr ⟨h, p⟩⟩
theorem addQ_no {w w' : World} {B b : Nat} {v : Value} {L : List Ez} {e : Ez} {k : Int} (h : addN L e = k) (hk : k ≠ 0) (t : Touch [] w w') : AddQ (.returned (.int .i64 k)) w' w B b v L e := ⟨by rw [h], Or.inl ⟨by rw [h]; exact hk, t⟩⟩
theorem addP_of {w W0 w6 : World} {B b n c6 : Nat} {a6 : Option Addr} {v : Value} {L : List Ez} {e : Ez} (Q0 : Tq W0 B b v L) (T0 : Touch [] w W0) (t6 : Touch v.ownBlock.toList W0 w6) (hn : L.length = n) (hl : n < 1048576)
    (o6 : w6.ownsRow B 40 13 (.slice a6 (n + 1) c6) (n + 1) (evs L ++ #[.int .i64 e.at_, .int .i64 e.kd, .int .i64 e.cl, .int .i64 e.ca, .int .i64 e.ru, .int .i64 e.ge, .int .i64 e.ho, .int .u16 e.sp, .string e.nm, .int .i64 e.va, .int .i64 e.fk, .int .i64 e.fc, .int .i64 e.fr].toList)) (p6 : (Value.slice a6 (n + 1) c6).ownBlock = v.ownBlock ∨ (Value.slice a6 (n + 1) c6).ownBlock = some (W0.alloc (.cells #[.int .i64 e.at_, .int .i64 e.kd, .int .i64 e.cl, .int .i64 e.ca, .int .i64 e.ru, .int .i64 e.ge, .int .i64 e.ho, .int .u16 e.sp, .string e.nm, .int .i64 e.va, .int .i64 e.fk, .int .i64 e.fc, .int .i64 e.fr] 40)).heap.size) : AddP (w6.setCell ⟨b, 0, none⟩ (.slice a6 (n + 1) c6)) w B b v L e := by
  have hb : b < w6.heap.size := Nat.lt_of_lt_of_le Q0.lt t6.size
  have hx : w6.heap[b]? = some (.cells #[v] 79 (0, 0)) := t6.keep Q0.bx (fun hm => Q0.ap (Option.mem_toList.1 hm))
  have hne : ∀ q, (Value.slice a6 (n + 1) c6).ownBlock = some q → q ≠ b := fun q hq e1 => by
    subst e1
    obtain ⟨cs, hc⟩ := own_kind o6 hq
    rw [hx] at hc
    simp at hc
  refine ⟨.slice a6 (n + 1) c6, ⟨?_, ?_, ?_⟩, ?_, fun q hq => ?_⟩
  · have := bset (i := 0) hx (.slice a6 (n + 1) c6)
    simpa using this
  · have h1 : (L ++ [e]).length = n + 1 := by simp [hn]
    rw [h1, evs_snoc]
    exact own_keep o6 (fun q hq => Below.heap_setCell _ _ _ _ (hne q hq))
  · simp; omega
  · exact ((T0.mono (G := b :: v.ownBlock.toList) (fun _ e => by cases e)).trans' (t6.mono (fun _ e => List.mem_cons_of_mem _ e))).setCell (Or.inl (by simp)) _
  · rcases p6 with p6 | p6
    · exact Or.inl (p6 ▸ hq)
    · rw [p6] at hq
      simp only [Option.some.injEq, World.size_alloc] at hq
      have := T0.size
      exact Or.inr (by omega)
/-- what At tells of the last event -/
theorem at_last {w : World} {B b : Nat} {v : Value} {L : List Ez} (h : Tq w B b v L) (e : Ez) : ∃ (x : Ez) (bt : Bool), lastB L e = (bt && decide (e.at_ < x.at_)) ∧ ∀ w', Touch [] w w' → Calls Tryz.prog 41 #[PT b, .int .i64 ((L.length : Int) - 1)] w' fun r w'' => r = .returned (.tuple #[x.val, .bool bt]) ∧ Touch [] w' w'' := by
  rcases List.eq_nil_or_concat L with hL | ⟨M, x, hL⟩
  · refine ⟨e0, false, by rw [hL]; rfl, fun w' t => at_out (h.touch0 t) _ (Or.inl (by rw [hL]; simp))⟩
  · refine ⟨x, true, by rw [hL, List.concat_eq_append]; simp [lastB], fun w' t => ?_⟩
    have := at_in (h.touch0 t) (L.length - 1) x (by rw [hL, List.concat_eq_append]; simp)
    rw [show (((L.length - 1 : Nat)) : Int) = (L.length : Int) - 1 by rw [hL]; simp] at this
    exact this
set_option maxHeartbeats 4000000 in
set_option maxRecDepth 20000 in
theorem add_chk {w : World} {B b : Nat} {v : Value} {L : List Ez} (h : Tq w B b v L) (hB : B ≤ b) (e : Ez) (hk : Tk w) (hs : e.nm.size ≤ maxLen) (h1 : chkE e = false) :
    Calls Tryz.prog 20 #[PT b, e.val] w fun r w' => AddQ r w' w B b v L e := by
  have H1 : Hid (∀ w', Touch [] w w' → Calls Tryz.prog 40 #[e.val] w' fun r w'' => r = .returned (.int .i64 240) ∧ Touch [] w' w'') := fun w' t => by
    have := check_ e w' (hk.touch t) hs
    rw [show chkN e = 240 by unfold chkN; rw [h1]; rfl] at this
    exact this
  have M1 : Hid (Touch [] w (w.alloc (.cells #[.int .i64 e.at_, .int .i64 e.kd, .int .i64 e.cl, .int .i64 e.ca, .int .i64 e.ru, .int .i64 e.ge, .int .i64 e.ho, .int .u16 e.sp, .string e.nm, .int .i64 e.va, .int .i64 e.fk, .int .i64 e.fc, .int .i64 e.fr] 40))) := (Touch.refl [] w).alloc _
  have HV : Hid (addN L e = 240) := by show addN L e = 240; unfold addN; rw [h1]; rfl
  clear hk hs h1
  unfold Ez.val PT at *
  go_enter Tryz.func20, Tryz.ntmps20
  go_wp2_with fail
  refine (H1.out _ M1.out).mono ?_
  rintro r w1 ⟨rfl, t1⟩
  have T1 : Hid (Touch [] w w1) := M1.out.trans' t1
  clear t1
  go_wp2_with fail
  go_ret
  exact addQ_no HV.out (by decide) T1.out
set_option maxHeartbeats 4000000 in
set_option maxRecDepth 20000 in
theorem add_full {w : World} {B b : Nat} {v : Value} {L : List Ez} (h : Tq w B b v L) (hB : B ≤ b) (e : Ez) (hk : Tk w) (hs : e.nm.size ≤ maxLen) (h1 : chkE e = true) (h2 : L.length = 1048576) :
    Calls Tryz.prog 20 #[PT b, e.val] w fun r w' => AddQ r w' w B b v L e := by
  have H1 : Hid (∀ w', Touch [] w w' → Calls Tryz.prog 40 #[e.val] w' fun r w'' => r = .returned (.int .i64 0) ∧ Touch [] w' w'') := fun w' t => by
    have := check_ e w' (hk.touch t) hs
    rw [show chkN e = 0 by unfold chkN; rw [h1]; rfl] at this
    exact this
  have M1 : Hid (Touch [] w (w.alloc (.cells #[.int .i64 e.at_, .int .i64 e.kd, .int .i64 e.cl, .int .i64 e.ca, .int .i64 e.ru, .int .i64 e.ge, .int .i64 e.ho, .int .u16 e.sp, .string e.nm, .int .i64 e.va, .int .i64 e.fk, .int .i64 e.fc, .int .i64 e.fr] 40))) := (Touch.refl [] w).alloc _
  have HV : Hid (addN L e = 3) := by show addN L e = 3; unfold addN; rw [h1, if_pos rfl, if_pos h2]
  obtain ⟨a, c, rfl⟩ := own_form h.ow
  have hle := h.le
  have HBw := hid hB
  have HnL0 : ∃ n, L.length = n := ⟨_, rfl⟩
  obtain ⟨n, hn⟩ := HnL0
  have HnL := hid hn
  rw [hn] at h2 hle
  have H := hid (show Tq w B b (.slice a n c) L from hn ▸ h)
  rw [hn]
  obtain ⟨NI, hNI⟩ : ∃ NI : Int, (n : Int) = NI := ⟨_, rfl⟩
  have hx : (NI == 1048576) = true := by rw [← hNI, h2]; rfl
  have CB : Hid (∀ w', Touch [] w w' → w'.cell? ⟨b, 0, none⟩ = some (.slice a n c)) := hid (fun w' t => cell_at (H.out.touch0 t).bx rfl)
  clear h hk hs h1 h2 hn hle hB
  unfold Ez.val PT at *
  go_enter Tryz.func20, Tryz.ntmps20
  go_wp2_with fail
  refine (H1.out _ M1.out).mono ?_
  rintro r w1 ⟨rfl, t1⟩
  have T1 : Hid (Touch [] w w1) := M1.out.trans' t1
  clear t1
  have cb := CB.out _ T1.out
  go_wp2_with fail
  go_ret
  exact addQ_no HV.out (by decide) T1.out
set_option maxHeartbeats 4000000 in
set_option maxRecDepth 20000 in
theorem add_back {w : World} {B b : Nat} {v : Value} {L : List Ez} (h : Tq w B b v L) (hB : B ≤ b) (e : Ez) (hk : Tk w) (hs : e.nm.size ≤ maxLen) (h1 : chkE e = true) (h2 : L.length ≠ 1048576) (x : Ez) (h3 : e.at_ < x.at_) (hV : addN L e = 101) (HA0 : ∀ w', Touch [] w w' → Calls Tryz.prog 41 #[PT b, .int .i64 ((L.length : Int) - 1)] w' fun r w'' => r = .returned (.tuple #[x.val, .bool true]) ∧ Touch [] w' w'') :
    Calls Tryz.prog 20 #[PT b, e.val] w fun r w' => AddQ r w' w B b v L e := by
  have H1 : Hid (∀ w', Touch [] w w' → Calls Tryz.prog 40 #[e.val] w' fun r w'' => r = .returned (.int .i64 0) ∧ Touch [] w' w'') := fun w' t => by
    have := check_ e w' (hk.touch t) hs
    rw [show chkN e = 0 by unfold chkN; rw [h1]; rfl] at this
    exact this
  have M1 : Hid (Touch [] w (w.alloc (.cells #[.int .i64 e.at_, .int .i64 e.kd, .int .i64 e.cl, .int .i64 e.ca, .int .i64 e.ru, .int .i64 e.ge, .int .i64 e.ho, .int .u16 e.sp, .string e.nm, .int .i64 e.va, .int .i64 e.fk, .int .i64 e.fc, .int .i64 e.fr] 40))) := (Touch.refl [] w).alloc _
  have HV := hid hV
  obtain ⟨a, c, rfl⟩ := own_form h.ow
  have hle := h.le
  have HBw := hid hB
  have HL : Hid (∀ w', Touch [] w w' → Calls Tryz.prog 42 #[PT b] w' fun r w'' => r = .returned (.int .i64 L.length) ∧ w'' = w') := fun w' t => len_ (h.touch0 t)
  have HA := hid HA0
  clear HA0 hV
  have HnL0 : ∃ n, L.length = n := ⟨_, rfl⟩
  obtain ⟨n, hn⟩ := HnL0
  have HnL := hid hn
  rw [hn] at h2 hle HL HA
  have H := hid (show Tq w B b (.slice a n c) L from hn ▸ h)
  rw [hn]
  obtain ⟨NI, hNI⟩ : ∃ NI : Int, (n : Int) = NI := ⟨_, rfl⟩
  have hx : (NI == 1048576) = false := by rw [← hNI]; simp; omega
  have HLn : Hid (n < 1048576) := by show n < 1048576; omega
  have hn0 : -1 ≤ NI - 1 := by omega
  have hn1 : NI - 1 ≤ 1048576 := by omega
  rw [hNI] at HL HA
  have CB : Hid (∀ w', Touch [] w w' → w'.cell? ⟨b, 0, none⟩ = some (.slice a n c)) := hid (fun w' t => cell_at (H.out.touch0 t).bx rfl)
  clear h hk hs h1 h2 hn hle hB
  unfold Ez.val PT at *
  go_enter Tryz.func20, Tryz.ntmps20
  go_wp2_with fail
  refine (H1.out _ M1.out).mono ?_
  rintro r w1 ⟨rfl, t1⟩
  have T1 : Hid (Touch [] w w1) := M1.out.trans' t1
  have B1 : Hid (w1.heap[w.heap.size]? = some (.cells #[.int .i64 e.at_, .int .i64 e.kd, .int .i64 e.cl, .int .i64 e.ca, .int .i64 e.ru, .int .i64 e.ge, .int .i64 e.ho, .int .u16 e.sp, .string e.nm, .int .i64 e.va, .int .i64 e.fk, .int .i64 e.fc, .int .i64 e.fr] 40 (0, 0))) := t1.keep (heap_alloc_new w _) (by simp)
  clear t1
  have cb := CB.out _ T1.out
  go_wp2_with fail
  refine (HL.out _ T1.out).mono ?_
  rintro r wq ⟨rfl, e1⟩
  rw [e1]
  clear e1 wq
  go_wp2_with fail
  refine (HA.out _ T1.out).mono ?_
  rintro r w2 ⟨rfl, t2⟩
  have T2 : Hid (Touch [] w w2) := T1.out.trans' t2
  have B2 : Hid (w2.heap[w.heap.size]? = some (.cells #[.int .i64 e.at_, .int .i64 e.kd, .int .i64 e.cl, .int .i64 e.ca, .int .i64 e.ru, .int .i64 e.ge, .int .i64 e.ho, .int .u16 e.sp, .string e.nm, .int .i64 e.va, .int .i64 e.fk, .int .i64 e.fc, .int .i64 e.fr] 40 (0, 0))) := t2.keep B1.out (by simp)
  have c0 := cell_at B2.out (j := 0) rfl
  have hlt : w.heap.size < w2.heap.size := block_lt B2.out
  clear t2 T1 B1 cb HL HA CB hx hn0 hn1
  go_wp2_with fail
  go_ret
  exact addQ_no HV.out (by decide) (T2.out.alloc _)
set_option maxHeartbeats 4000000 in
set_option maxRecDepth 20000 in
theorem add_ok1 {w : World} {B b : Nat} {v : Value} {L : List Ez} (h : Tq w B b v L) (hB : B ≤ b) (e : Ez) (hk : Tk w) (hs : e.nm.size ≤ maxLen) (h1 : chkE e = true) (h2 : L.length ≠ 1048576) (x : Ez) (h3 : ¬ e.at_ < x.at_) (hV : addN L e = 0) (HA0 : ∀ w', Touch [] w w' → Calls Tryz.prog 41 #[PT b, .int .i64 ((L.length : Int) - 1)] w' fun r w'' => r = .returned (.tuple #[x.val, .bool true]) ∧ Touch [] w' w'') :
    Calls Tryz.prog 20 #[PT b, e.val] w fun r w' => AddQ r w' w B b v L e := by
  have H1 : Hid (∀ w', Touch [] w w' → Calls Tryz.prog 40 #[e.val] w' fun r w'' => r = .returned (.int .i64 0) ∧ Touch [] w' w'') := fun w' t => by
    have := check_ e w' (hk.touch t) hs
    rw [show chkN e = 0 by unfold chkN; rw [h1]; rfl] at this
    exact this
  have M1 : Hid (Touch [] w (w.alloc (.cells #[.int .i64 e.at_, .int .i64 e.kd, .int .i64 e.cl, .int .i64 e.ca, .int .i64 e.ru, .int .i64 e.ge, .int .i64 e.ho, .int .u16 e.sp, .string e.nm, .int .i64 e.va, .int .i64 e.fk, .int .i64 e.fc, .int .i64 e.fr] 40))) := (Touch.refl [] w).alloc _
  have HV := hid hV
  obtain ⟨a, c, rfl⟩ := own_form h.ow
  have hle := h.le
  have HBw := hid hB
  have HL : Hid (∀ w', Touch [] w w' → Calls Tryz.prog 42 #[PT b] w' fun r w'' => r = .returned (.int .i64 L.length) ∧ w'' = w') := fun w' t => len_ (h.touch0 t)
  have HA := hid HA0
  clear HA0 hV
  have HnL0 : ∃ n, L.length = n := ⟨_, rfl⟩
  obtain ⟨n, hn⟩ := HnL0
  have HnL := hid hn
  rw [hn] at h2 hle HL HA
  have H := hid (show Tq w B b (.slice a n c) L from hn ▸ h)
  rw [hn]
  obtain ⟨NI, hNI⟩ : ∃ NI : Int, (n : Int) = NI := ⟨_, rfl⟩
  have hx : (NI == 1048576) = false := by rw [← hNI]; simp; omega
  have HLn : Hid (n < 1048576) := by show n < 1048576; omega
  have hn0 : -1 ≤ NI - 1 := by omega
  have hn1 : NI - 1 ≤ 1048576 := by omega
  rw [hNI] at HL HA
  have CB : Hid (∀ w', Touch [] w w' → w'.cell? ⟨b, 0, none⟩ = some (.slice a n c)) := hid (fun w' t => cell_at (H.out.touch0 t).bx rfl)
  clear h hk hs h1 h2 hn hle hB
  unfold Ez.val PT at *
  go_enter Tryz.func20, Tryz.ntmps20
  go_wp2_with fail
  refine (H1.out _ M1.out).mono ?_
  rintro r w1 ⟨rfl, t1⟩
  have T1 : Hid (Touch [] w w1) := M1.out.trans' t1
  have B1 : Hid (w1.heap[w.heap.size]? = some (.cells #[.int .i64 e.at_, .int .i64 e.kd, .int .i64 e.cl, .int .i64 e.ca, .int .i64 e.ru, .int .i64 e.ge, .int .i64 e.ho, .int .u16 e.sp, .string e.nm, .int .i64 e.va, .int .i64 e.fk, .int .i64 e.fc, .int .i64 e.fr] 40 (0, 0))) := t1.keep (heap_alloc_new w _) (by simp)
  clear t1
  have cb := CB.out _ T1.out
  go_wp2_with fail
  refine (HL.out _ T1.out).mono ?_
  rintro r wq ⟨rfl, e1⟩
  rw [e1]
  clear e1 wq
  go_wp2_with fail
  refine (HA.out _ T1.out).mono ?_
  rintro r w2 ⟨rfl, t2⟩
  have T2 : Hid (Touch [] w w2) := T1.out.trans' t2
  have B2 : Hid (w2.heap[w.heap.size]? = some (.cells #[.int .i64 e.at_, .int .i64 e.kd, .int .i64 e.cl, .int .i64 e.ca, .int .i64 e.ru, .int .i64 e.ge, .int .i64 e.ho, .int .u16 e.sp, .string e.nm, .int .i64 e.va, .int .i64 e.fk, .int .i64 e.fc, .int .i64 e.fr] 40 (0, 0))) := t2.keep B1.out (by simp)
  have c0 := cell_at B2.out (j := 0) rfl
  have hlt : w.heap.size < w2.heap.size := block_lt B2.out
  clear t2 T1 B1 cb HL HA CB hx hn0 hn1
  go_upto_region 9 with fail
  have TV : Hid (Touch [] w (w2.alloc (.cells #[.int .i64 x.at_, .int .i64 x.kd, .int .i64 x.cl, .int .i64 x.ca, .int .i64 x.ru, .int .i64 x.ge, .int .i64 x.ho, .int .u16 x.sp, .string x.nm, .int .i64 x.va, .int .i64 x.fk, .int .i64 x.fc, .int .i64 x.fr] 40))) := T2.out.alloc _
  have BV : Hid ((w2.alloc (.cells #[.int .i64 x.at_, .int .i64 x.kd, .int .i64 x.cl, .int .i64 x.ca, .int .i64 x.ru, .int .i64 x.ge, .int .i64 x.ho, .int .u16 x.sp, .string x.nm, .int .i64 x.va, .int .i64 x.fk, .int .i64 x.fc, .int .i64 x.fr] 40)).heap[w.heap.size]? = some (.cells #[.int .i64 e.at_, .int .i64 e.kd, .int .i64 e.cl, .int .i64 e.ca, .int .i64 e.ru, .int .i64 e.ge, .int .i64 e.ho, .int .u16 e.sp, .string e.nm, .int .i64 e.va, .int .i64 e.fk, .int .i64 e.fc, .int .i64 e.fr] 40 (0, 0))) := ((Touch.refl [] w2).alloc _).keep B2.out (by simp)
  clear T2 B2 c0 hlt
  generalize w2.alloc (.cells #[.int .i64 x.at_, .int .i64 x.kd, .int .i64 x.cl, .int .i64 x.ca, .int .i64 x.ru, .int .i64 x.ge, .int .i64 x.ho, .int .u16 x.sp, .string x.nm, .int .i64 x.va, .int .i64 x.fk, .int .i64 x.fc, .int .i64 x.fr] 40) = W at *
  obtain ⟨k0, hk0⟩ : ∃ k0, k0 = w.heap.size := ⟨_, rfl⟩
  have HK0 := hid hk0
  rw [← hk0] at BV ⊢
  clear hk0
  have T0 := hid (TV.out.drew)
  have B0 : W.drew.heap[k0]? = some (.cells #[.int .i64 e.at_, .int .i64 e.kd, .int .i64 e.cl, .int .i64 e.ca, .int .i64 e.ru, .int .i64 e.ge, .int .i64 e.ho, .int .u16 e.sp, .string e.nm, .int .i64 e.va, .int .i64 e.fk, .int .i64 e.fc, .int .i64 e.fr] 40 (0, 0)) := BV.out
  have Q0' : Tq W.drew B b (.slice a n c) L := H.out.touch0 T0.out
  refine wp_region_L (S := fun w' => w'.heap[b]? = some (.cells #[.slice a n c] 79 (0, 0)) ∧ w'.heap[k0]? = some (.cells #[.int .i64 e.at_, .int .i64 e.kd, .int .i64 e.cl, .int .i64 e.ca, .int .i64 e.ru, .int .i64 e.ge, .int .i64 e.ho, .int .u16 e.sp, .string e.nm, .int .i64 e.va, .int .i64 e.fk, .int .i64 e.fc, .int .i64 e.fr] 40 (0, 0))) (st := 10) (by kernel_rfl) ?_
  generalize W.drew = W0 at *
  have Q0 := hid Q0'
  have HS : Hid (∀ w' : World, Touch (Value.slice a n c).ownBlock.toList W0 w' → w'.heap[b]? = some (.cells #[.slice a n c] 79 (0, 0)) ∧ w'.heap[k0]? = some (.cells #[.int .i64 e.at_, .int .i64 e.kd, .int .i64 e.cl, .int .i64 e.ca, .int .i64 e.ru, .int .i64 e.ge, .int .i64 e.ho, .int .u16 e.sp, .string e.nm, .int .i64 e.va, .int .i64 e.fk, .int .i64 e.fc, .int .i64 e.fr] 40 (0, 0))) := hid (fun w' t =>
    ⟨t.keep Q0'.bx (fun hm => Q0'.ap (Option.mem_toList.1 hm)), t.keep B0 (fun hm => by have := (H.out.ow.lt k0 (Option.mem_toList.1 hm)).2; have := HK0.out; omega)⟩)
  clear Q0'
  have S0 := HS.out W0 (Touch.refl _ _)
  have C0 : ∀ w' : World, (w'.heap[b]? = some (.cells #[.slice a n c] 79 (0, 0)) ∧ w'.heap[k0]? = some (.cells #[.int .i64 e.at_, .int .i64 e.kd, .int .i64 e.cl, .int .i64 e.ca, .int .i64 e.ru, .int .i64 e.ge, .int .i64 e.ho, .int .u16 e.sp, .string e.nm, .int .i64 e.va, .int .i64 e.fk, .int .i64 e.fc, .int .i64 e.fr] 40 (0, 0))) → w'.cell? ⟨b, 0, none⟩ = some (.slice a n c) := fun w' h => cell_at h.1 rfl
  have F0 : ∀ w' : World, (w'.heap[b]? = some (.cells #[.slice a n c] 79 (0, 0)) ∧ w'.heap[k0]? = some (.cells #[.int .i64 e.at_, .int .i64 e.kd, .int .i64 e.cl, .int .i64 e.ca, .int .i64 e.ru, .int .i64 e.ge, .int .i64 e.ho, .int .u16 e.sp, .string e.nm, .int .i64 e.va, .int .i64 e.fk, .int .i64 e.fc, .int .i64 e.fr] 40 (0, 0))) → w'.cell? ⟨k0, 0, none⟩ = some (.int .i64 e.at_) := fun w' h => cell_at h.2 rfl
  have F1 : ∀ w' : World, (w'.heap[b]? = some (.cells #[.slice a n c] 79 (0, 0)) ∧ w'.heap[k0]? = some (.cells #[.int .i64 e.at_, .int .i64 e.kd, .int .i64 e.cl, .int .i64 e.ca, .int .i64 e.ru, .int .i64 e.ge, .int .i64 e.ho, .int .u16 e.sp, .string e.nm, .int .i64 e.va, .int .i64 e.fk, .int .i64 e.fc, .int .i64 e.fr] 40 (0, 0))) → w'.cell? ⟨k0, 1, none⟩ = some (.int .i64 e.kd) := fun w' h => cell_at h.2 rfl
  have F2 : ∀ w' : World, (w'.heap[b]? = some (.cells #[.slice a n c] 79 (0, 0)) ∧ w'.heap[k0]? = some (.cells #[.int .i64 e.at_, .int .i64 e.kd, .int .i64 e.cl, .int .i64 e.ca, .int .i64 e.ru, .int .i64 e.ge, .int .i64 e.ho, .int .u16 e.sp, .string e.nm, .int .i64 e.va, .int .i64 e.fk, .int .i64 e.fc, .int .i64 e.fr] 40 (0, 0))) → w'.cell? ⟨k0, 2, none⟩ = some (.int .i64 e.cl) := fun w' h => cell_at h.2 rfl
  have F3 : ∀ w' : World, (w'.heap[b]? = some (.cells #[.slice a n c] 79 (0, 0)) ∧ w'.heap[k0]? = some (.cells #[.int .i64 e.at_, .int .i64 e.kd, .int .i64 e.cl, .int .i64 e.ca, .int .i64 e.ru, .int .i64 e.ge, .int .i64 e.ho, .int .u16 e.sp, .string e.nm, .int .i64 e.va, .int .i64 e.fk, .int .i64 e.fc, .int .i64 e.fr] 40 (0, 0))) → w'.cell? ⟨k0, 3, none⟩ = some (.int .i64 e.ca) := fun w' h => cell_at h.2 rfl
  have F4 : ∀ w' : World, (w'.heap[b]? = some (.cells #[.slice a n c] 79 (0, 0)) ∧ w'.heap[k0]? = some (.cells #[.int .i64 e.at_, .int .i64 e.kd, .int .i64 e.cl, .int .i64 e.ca, .int .i64 e.ru, .int .i64 e.ge, .int .i64 e.ho, .int .u16 e.sp, .string e.nm, .int .i64 e.va, .int .i64 e.fk, .int .i64 e.fc, .int .i64 e.fr] 40 (0, 0))) → w'.cell? ⟨k0, 4, none⟩ = some (.int .i64 e.ru) := fun w' h => cell_at h.2 rfl
  have F5 : ∀ w' : World, (w'.heap[b]? = some (.cells #[.slice a n c] 79 (0, 0)) ∧ w'.heap[k0]? = some (.cells #[.int .i64 e.at_, .int .i64 e.kd, .int .i64 e.cl, .int .i64 e.ca, .int .i64 e.ru, .int .i64 e.ge, .int .i64 e.ho, .int .u16 e.sp, .string e.nm, .int .i64 e.va, .int .i64 e.fk, .int .i64 e.fc, .int .i64 e.fr] 40 (0, 0))) → w'.cell? ⟨k0, 5, none⟩ = some (.int .i64 e.ge) := fun w' h => cell_at h.2 rfl
  have F6 : ∀ w' : World, (w'.heap[b]? = some (.cells #[.slice a n c] 79 (0, 0)) ∧ w'.heap[k0]? = some (.cells #[.int .i64 e.at_, .int .i64 e.kd, .int .i64 e.cl, .int .i64 e.ca, .int .i64 e.ru, .int .i64 e.ge, .int .i64 e.ho, .int .u16 e.sp, .string e.nm, .int .i64 e.va, .int .i64 e.fk, .int .i64 e.fc, .int .i64 e.fr] 40 (0, 0))) → w'.cell? ⟨k0, 6, none⟩ = some (.int .i64 e.ho) := fun w' h => cell_at h.2 rfl
  have F7 : ∀ w' : World, (w'.heap[b]? = some (.cells #[.slice a n c] 79 (0, 0)) ∧ w'.heap[k0]? = some (.cells #[.int .i64 e.at_, .int .i64 e.kd, .int .i64 e.cl, .int .i64 e.ca, .int .i64 e.ru, .int .i64 e.ge, .int .i64 e.ho, .int .u16 e.sp, .string e.nm, .int .i64 e.va, .int .i64 e.fk, .int .i64 e.fc, .int .i64 e.fr] 40 (0, 0))) → w'.cell? ⟨k0, 7, none⟩ = some (.int .u16 e.sp) := fun w' h => cell_at h.2 rfl
  have F8 : ∀ w' : World, (w'.heap[b]? = some (.cells #[.slice a n c] 79 (0, 0)) ∧ w'.heap[k0]? = some (.cells #[.int .i64 e.at_, .int .i64 e.kd, .int .i64 e.cl, .int .i64 e.ca, .int .i64 e.ru, .int .i64 e.ge, .int .i64 e.ho, .int .u16 e.sp, .string e.nm, .int .i64 e.va, .int .i64 e.fk, .int .i64 e.fc, .int .i64 e.fr] 40 (0, 0))) → w'.cell? ⟨k0, 8, none⟩ = some (.string e.nm) := fun w' h => cell_at h.2 rfl
  have F9 : ∀ w' : World, (w'.heap[b]? = some (.cells #[.slice a n c] 79 (0, 0)) ∧ w'.heap[k0]? = some (.cells #[.int .i64 e.at_, .int .i64 e.kd, .int .i64 e.cl, .int .i64 e.ca, .int .i64 e.ru, .int .i64 e.ge, .int .i64 e.ho, .int .u16 e.sp, .string e.nm, .int .i64 e.va, .int .i64 e.fk, .int .i64 e.fc, .int .i64 e.fr] 40 (0, 0))) → w'.cell? ⟨k0, 9, none⟩ = some (.int .i64 e.va) := fun w' h => cell_at h.2 rfl
  have F10 : ∀ w' : World, (w'.heap[b]? = some (.cells #[.slice a n c] 79 (0, 0)) ∧ w'.heap[k0]? = some (.cells #[.int .i64 e.at_, .int .i64 e.kd, .int .i64 e.cl, .int .i64 e.ca, .int .i64 e.ru, .int .i64 e.ge, .int .i64 e.ho, .int .u16 e.sp, .string e.nm, .int .i64 e.va, .int .i64 e.fk, .int .i64 e.fc, .int .i64 e.fr] 40 (0, 0))) → w'.cell? ⟨k0, 10, none⟩ = some (.int .i64 e.fk) := fun w' h => cell_at h.2 rfl
  have F11 : ∀ w' : World, (w'.heap[b]? = some (.cells #[.slice a n c] 79 (0, 0)) ∧ w'.heap[k0]? = some (.cells #[.int .i64 e.at_, .int .i64 e.kd, .int .i64 e.cl, .int .i64 e.ca, .int .i64 e.ru, .int .i64 e.ge, .int .i64 e.ho, .int .u16 e.sp, .string e.nm, .int .i64 e.va, .int .i64 e.fk, .int .i64 e.fc, .int .i64 e.fr] 40 (0, 0))) → w'.cell? ⟨k0, 11, none⟩ = some (.int .i64 e.fc) := fun w' h => cell_at h.2 rfl
  have F12 : ∀ w' : World, (w'.heap[b]? = some (.cells #[.slice a n c] 79 (0, 0)) ∧ w'.heap[k0]? = some (.cells #[.int .i64 e.at_, .int .i64 e.kd, .int .i64 e.cl, .int .i64 e.ca, .int .i64 e.ru, .int .i64 e.ge, .int .i64 e.ho, .int .u16 e.sp, .string e.nm, .int .i64 e.va, .int .i64 e.fk, .int .i64 e.fc, .int .i64 e.fr] 40 (0, 0))) → w'.cell? ⟨k0, 12, none⟩ = some (.int .i64 e.fr) := fun w' h => cell_at h.2 rfl
  clear B0 TV BV
  refine wpL_take (i := 0) (v := (.pointer (some ⟨b, 0, none⟩))) (some 39) rfl rfl (by kernel_rfl) (by kernel_rfl) (by kernel_rfl) (by kernel_rfl) (by kernel_rfl) (by decide) (fun _ _ _ h => h) (Or.inl ⟨by rfl, fun w' hS => (by go_simp)⟩) S0 ?_
  try simp only [Go.Act.put, List.setIfInBounds_toArray, List.set_cons_zero, List.set_cons_succ]
  refine wpL_take (i := 1) (v := (.pointer (some ⟨b, 0, none⟩))) (some 40) rfl rfl (by kernel_rfl) (by kernel_rfl) (by kernel_rfl) (by kernel_rfl) (by kernel_rfl) (by decide) (fun _ _ _ h => h) (Or.inl ⟨by rfl, fun w' hS => (by go_simp)⟩) S0 ?_
  try simp only [Go.Act.put, List.setIfInBounds_toArray, List.set_cons_zero, List.set_cons_succ]
  refine wpL_take (i := 2) (v := (.pointer (some ⟨b, 0, none⟩))) (some 41) rfl rfl (by kernel_rfl) (by kernel_rfl) (by kernel_rfl) (by kernel_rfl) (by kernel_rfl) (by decide) (fun _ _ _ h => h) (Or.inl ⟨by rfl, fun w' hS => (by go_simp)⟩) S0 ?_
  try simp only [Go.Act.put, List.setIfInBounds_toArray, List.set_cons_zero, List.set_cons_succ]
  refine wpL_take (i := 3) (v := (.pointer (some ⟨b, 0, none⟩))) (some 42) rfl rfl (by kernel_rfl) (by kernel_rfl) (by kernel_rfl) (by kernel_rfl) (by kernel_rfl) (by decide) (fun _ _ _ h => h) (Or.inl ⟨by rfl, fun w' hS => (by go_simp)⟩) S0 ?_
  try simp only [Go.Act.put, List.setIfInBounds_toArray, List.set_cons_zero, List.set_cons_succ]
  refine wpL_take (i := 4) (v := (.slice a n c)) (some 43) rfl rfl (by kernel_rfl) (by kernel_rfl) (by kernel_rfl) (by kernel_rfl) (by kernel_rfl) (by decide) (fun _ _ _ h => h) (Or.inl ⟨by rfl, fun w' hS => (by have z0 := C0 _ hS; go_simp)⟩) S0 ?_
  try simp only [Go.Act.put, List.setIfInBounds_toArray, List.set_cons_zero, List.set_cons_succ]
  refine wpL_take (i := 5) (v := (.agg #[.int .i64 e.at_, .int .i64 e.kd, .int .i64 e.cl, .int .i64 e.ca, .int .i64 e.ru, .int .i64 e.ge, .int .i64 e.ho, .int .u16 e.sp, .string e.nm, .int .i64 e.va, .int .i64 e.fk, .int .i64 e.fc, .int .i64 e.fr])) (some 44) rfl rfl (by kernel_rfl) (by kernel_rfl) (by kernel_rfl) (by kernel_rfl) (by kernel_rfl) (by decide) (fun _ _ _ h => h) (Or.inl ⟨by rfl, fun w' hS => (by have z0 := F0 _ hS; have z1 := F1 _ hS; have z2 := F2 _ hS; have z3 := F3 _ hS; have z4 := F4 _ hS; have z5 := F5 _ hS; have z6 := F6 _ hS; have z7 := F7 _ hS; have z8 := F8 _ hS; have z9 := F9 _ hS; have z10 := F10 _ hS; have z11 := F11 _ hS; have z12 := F12 _ hS; go_simp)⟩) S0 ?_
  try simp only [Go.Act.put, List.setIfInBounds_toArray, List.set_cons_zero, List.set_cons_succ]
  refine wpL_ready (rs := [6]) (by kernel_rfl) (by simp) (AllL.cons (o := { dst := some 45, op := Op.buildSlice 22 1 #[(0, Operand.tmp 44)], type := 22, pos := _, after := #[{ on := 5, ground := Ground.data }], guard := none }) rfl (fun K' hK => ?_) AllL.nil)
  rw [if_pos (by rfl)]
  go_simp
  have t1 : Touch (Value.slice a n c).ownBlock.toList W0 (W0.alloc (.cells #[.int .i64 e.at_, .int .i64 e.kd, .int .i64 e.cl, .int .i64 e.ca, .int .i64 e.ru, .int .i64 e.ge, .int .i64 e.ho, .int .u16 e.sp, .string e.nm, .int .i64 e.va, .int .i64 e.fk, .int .i64 e.fc, .int .i64 e.fr] 40)) := (Touch.refl _ W0).alloc _
  have S1 := HS.out _ t1
  refine hK.out _ _ (fun _ => S1) ?_
  clear hK
  try simp only [Go.Act.put, List.setIfInBounds_toArray, List.set_cons_zero, List.set_cons_succ]
  refine wpL_ready (rs := [7]) (by kernel_rfl) (by simp) (AllL.cons (o := { dst := some 46, op := Op.call { callee := Callee.builtin Builtin.append, args := #[Operand.tmp 43, Operand.tmp 45], argTypes := #[22, 22] }, type := 22, pos := _, after := #[{ on := 4, ground := Ground.data }, { on := 6, ground := Ground.data }], guard := none }) rfl (fun K' hK => ?_) AllL.nil)
  rw [if_pos (by rfl)]
  have O1 := own_touch Q0.out.ow ((Touch.refl [] W0).alloc (.cells #[.int .i64 e.at_, .int .i64 e.kd, .int .i64 e.cl, .int .i64 e.ca, .int .i64 e.ru, .int .i64 e.ge, .int .i64 e.ho, .int .u16 e.sp, .string e.nm, .int .i64 e.va, .int .i64 e.fk, .int .i64 e.fc, .int .i64 e.fr] 40)) (by simp)
  refine wp_append_rs _ _ 22 40 rfl _ 13 112 infoE Tryz.underlying22 rfl (by decide) B (Value.slice a n c) n (evs L) rfl (HnL.out ▸ O1) (.slice (some ⟨W0.heap.size, 0, none⟩) 1 1) 1 _ rfl (Rs.new W0 #[.int .i64 e.at_, .int .i64 e.kd, .int .i64 e.cl, .int .i64 e.ca, .int .i64 e.ru, .int .i64 e.ge, .int .i64 e.ho, .int .u16 e.sp, .string e.nm, .int .i64 e.va, .int .i64 e.fk, .int .i64 e.fc, .int .i64 e.fr] 40 13 rfl) (by simp [Value.oneCell']) (by have := HLn.out; unfold maxLen; omega) (by have := HLn.out; omega) (by have := HBw.out; have := Q0.out.lt; simp; omega) ?_
  intro v6 w6 o6 gr6 p6
  obtain ⟨a6, c6, e6⟩ := own_form o6
  subst e6
  have t6 : Touch (Value.slice a n c).ownBlock.toList W0 w6 := t1.grown gr6 (fun q hq => Or.inl (by simp [hq]))
  have S6 := HS.out _ t6
  have D6 : Hid (AddP (w6.setCell ⟨b, 0, none⟩ (.slice a6 (n + 1) c6)) w B b (Value.slice a n c) L e) := addP_of Q0.out T0.out t6 HnL.out HLn.out o6 p6
  have f6 : w6.frozen? ⟨b, 0, none⟩ = false := froz_at S6.1 0
  clear o6 gr6 p6 O1 t6
  refine hK.out _ _ (fun _ => S6) ?_
  clear hK
  try simp only [Go.Act.put, List.setIfInBounds_toArray, List.set_cons_zero, List.set_cons_succ]
  refine wpL_takeY (i := 8) (v := (.pointer (some ⟨b, 0, none⟩))) (some 47) rfl rfl (by kernel_rfl) (by kernel_rfl) (by kernel_rfl) (by decide) (fun _ _ _ h => h) (Or.inl ⟨by rfl, fun w' hS => (by go_simp)⟩) (fun _ => S6) ?_
  try simp only [Go.Act.put, List.setIfInBounds_toArray, List.set_cons_zero, List.set_cons_succ]
  refine wpL_take (i := 9) (v := (.pointer (some ⟨b, 0, none⟩))) (some 48) rfl rfl (by kernel_rfl) (by kernel_rfl) (by kernel_rfl) (by kernel_rfl) (by kernel_rfl) (by decide) (fun _ _ _ h => h) (Or.inl ⟨by rfl, fun w' hS => (by go_simp)⟩) S6 ?_
  try simp only [Go.Act.put, List.setIfInBounds_toArray, List.set_cons_zero, List.set_cons_succ]
  refine wpL_ready (rs := [10]) (by kernel_rfl) (by simp) (AllL.cons (o := { dst := none, op := Op.store 22 (Operand.tmp 48) (Operand.tmp 46), type := 0, pos := _, after := #[{ on := 9, ground := Ground.data }, { on := 7, ground := Ground.data }, { on := 7, ground := Ground.chain }, { on := 0, ground := Ground.phase }, { on := 1, ground := Ground.phase }, { on := 2, ground := Ground.phase }, { on := 3, ground := Ground.phase }, { on := 4, ground := Ground.phase }, { on := 5, ground := Ground.phase }, { on := 6, ground := Ground.phase }, { on := 7, ground := Ground.phase }], guard := none }) rfl (fun K' hK => ?_) AllL.nil)
  rw [if_pos (by rfl)]
  have g6 := cell_at S6.1 (j := 0) rfl
  clear F0 F1 F2 F3 F4 F5 F6 F7 F8 F9 F10 F11 F12 C0
  go_simp
  refine hK.out _ _ (fun h => absurd h (by decide)) ?_
  clear hK
  try simp only [Go.Act.put, List.setIfInBounds_toArray, List.set_cons_zero, List.set_cons_succ]
  refine wpL_done (by kernel_rfl) ?_ _
  go_wp2_with fail
  go_ret
  exact addQ_ok HV.out D6.out
set_option maxHeartbeats 4000000 in
set_option maxRecDepth 20000 in
theorem add_ok0 {w : World} {B b : Nat} {v : Value} {L : List Ez} (h : Tq w B b v L) (hB : B ≤ b) (e : Ez) (hk : Tk w) (hs : e.nm.size ≤ maxLen) (h1 : chkE e = true) (h2 : L.length ≠ 1048576) (x : Ez) (hV : addN L e = 0) (HA0 : ∀ w', Touch [] w w' → Calls Tryz.prog 41 #[PT b, .int .i64 ((L.length : Int) - 1)] w' fun r w'' => r = .returned (.tuple #[x.val, .bool false]) ∧ Touch [] w' w'') :
    Calls Tryz.prog 20 #[PT b, e.val] w fun r w' => AddQ r w' w B b v L e := by
  have H1 : Hid (∀ w', Touch [] w w' → Calls Tryz.prog 40 #[e.val] w' fun r w'' => r = .returned (.int .i64 0) ∧ Touch [] w' w'') := fun w' t => by
    have := check_ e w' (hk.touch t) hs
    rw [show chkN e = 0 by unfold chkN; rw [h1]; rfl] at this
    exact this
  have M1 : Hid (Touch [] w (w.alloc (.cells #[.int .i64 e.at_, .int .i64 e.kd, .int .i64 e.cl, .int .i64 e.ca, .int .i64 e.ru, .int .i64 e.ge, .int .i64 e.ho, .int .u16 e.sp, .string e.nm, .int .i64 e.va, .int .i64 e.fk, .int .i64 e.fc, .int .i64 e.fr] 40))) := (Touch.refl [] w).alloc _
  have HV := hid hV
  obtain ⟨a, c, rfl⟩ := own_form h.ow
  have hle := h.le
  have HBw := hid hB
  have HL : Hid (∀ w', Touch [] w w' → Calls Tryz.prog 42 #[PT b] w' fun r w'' => r = .returned (.int .i64 L.length) ∧ w'' = w') := fun w' t => len_ (h.touch0 t)
  have HA := hid HA0
  clear HA0 hV
  have HnL0 : ∃ n, L.length = n := ⟨_, rfl⟩
  obtain ⟨n, hn⟩ := HnL0
  have HnL := hid hn
  rw [hn] at h2 hle HL HA
  have H := hid (show Tq w B b (.slice a n c) L from hn ▸ h)
  rw [hn]
  obtain ⟨NI, hNI⟩ : ∃ NI : Int, (n : Int) = NI := ⟨_, rfl⟩
  have hx : (NI == 1048576) = false := by rw [← hNI]; simp; omega
  have HLn : Hid (n < 1048576) := by show n < 1048576; omega
  have hn0 : -1 ≤ NI - 1 := by omega
  have hn1 : NI - 1 ≤ 1048576 := by omega
  rw [hNI] at HL HA
  have CB : Hid (∀ w', Touch [] w w' → w'.cell? ⟨b, 0, none⟩ = some (.slice a n c)) := hid (fun w' t => cell_at (H.out.touch0 t).bx rfl)
  clear h hk hs h1 h2 hn hle hB
  unfold Ez.val PT at *
  go_enter Tryz.func20, Tryz.ntmps20
  go_wp2_with fail
  refine (H1.out _ M1.out).mono ?_
  rintro r w1 ⟨rfl, t1⟩
  have T1 : Hid (Touch [] w w1) := M1.out.trans' t1
  have B1 : Hid (w1.heap[w.heap.size]? = some (.cells #[.int .i64 e.at_, .int .i64 e.kd, .int .i64 e.cl, .int .i64 e.ca, .int .i64 e.ru, .int .i64 e.ge, .int .i64 e.ho, .int .u16 e.sp, .string e.nm, .int .i64 e.va, .int .i64 e.fk, .int .i64 e.fc, .int .i64 e.fr] 40 (0, 0))) := t1.keep (heap_alloc_new w _) (by simp)
  clear t1
  have cb := CB.out _ T1.out
  go_wp2_with fail
  refine (HL.out _ T1.out).mono ?_
  rintro r wq ⟨rfl, e1⟩
  rw [e1]
  clear e1 wq
  go_wp2_with fail
  refine (HA.out _ T1.out).mono ?_
  rintro r w2 ⟨rfl, t2⟩
  have T2 : Hid (Touch [] w w2) := T1.out.trans' t2
  have B2 : Hid (w2.heap[w.heap.size]? = some (.cells #[.int .i64 e.at_, .int .i64 e.kd, .int .i64 e.cl, .int .i64 e.ca, .int .i64 e.ru, .int .i64 e.ge, .int .i64 e.ho, .int .u16 e.sp, .string e.nm, .int .i64 e.va, .int .i64 e.fk, .int .i64 e.fc, .int .i64 e.fr] 40 (0, 0))) := t2.keep B1.out (by simp)
  have c0 := cell_at B2.out (j := 0) rfl
  have hlt : w.heap.size < w2.heap.size := block_lt B2.out
  clear t2 T1 B1 cb HL HA CB hx hn0 hn1
  go_upto_region 9 with fail
  have TV : Hid (Touch [] w (w2.alloc (.cells #[.int .i64 x.at_, .int .i64 x.kd, .int .i64 x.cl, .int .i64 x.ca, .int .i64 x.ru, .int .i64 x.ge, .int .i64 x.ho, .int .u16 x.sp, .string x.nm, .int .i64 x.va, .int .i64 x.fk, .int .i64 x.fc, .int .i64 x.fr] 40))) := T2.out.alloc _
  have BV : Hid ((w2.alloc (.cells #[.int .i64 x.at_, .int .i64 x.kd, .int .i64 x.cl, .int .i64 x.ca, .int .i64 x.ru, .int .i64 x.ge, .int .i64 x.ho, .int .u16 x.sp, .string x.nm, .int .i64 x.va, .int .i64 x.fk, .int .i64 x.fc, .int .i64 x.fr] 40)).heap[w.heap.size]? = some (.cells #[.int .i64 e.at_, .int .i64 e.kd, .int .i64 e.cl, .int .i64 e.ca, .int .i64 e.ru, .int .i64 e.ge, .int .i64 e.ho, .int .u16 e.sp, .string e.nm, .int .i64 e.va, .int .i64 e.fk, .int .i64 e.fc, .int .i64 e.fr] 40 (0, 0))) := ((Touch.refl [] w2).alloc _).keep B2.out (by simp)
  clear T2 B2 c0 hlt
  generalize w2.alloc (.cells #[.int .i64 x.at_, .int .i64 x.kd, .int .i64 x.cl, .int .i64 x.ca, .int .i64 x.ru, .int .i64 x.ge, .int .i64 x.ho, .int .u16 x.sp, .string x.nm, .int .i64 x.va, .int .i64 x.fk, .int .i64 x.fc, .int .i64 x.fr] 40) = W at *
  obtain ⟨k0, hk0⟩ : ∃ k0, k0 = w.heap.size := ⟨_, rfl⟩
  have HK0 := hid hk0
  rw [← hk0] at BV ⊢
  clear hk0
  have T0 := hid (TV.out.drew)
  have B0 : W.drew.heap[k0]? = some (.cells #[.int .i64 e.at_, .int .i64 e.kd, .int .i64 e.cl, .int .i64 e.ca, .int .i64 e.ru, .int .i64 e.ge, .int .i64 e.ho, .int .u16 e.sp, .string e.nm, .int .i64 e.va, .int .i64 e.fk, .int .i64 e.fc, .int .i64 e.fr] 40 (0, 0)) := BV.out
  have Q0' : Tq W.drew B b (.slice a n c) L := H.out.touch0 T0.out
  refine wp_region_L (S := fun w' => w'.heap[b]? = some (.cells #[.slice a n c] 79 (0, 0)) ∧ w'.heap[k0]? = some (.cells #[.int .i64 e.at_, .int .i64 e.kd, .int .i64 e.cl, .int .i64 e.ca, .int .i64 e.ru, .int .i64 e.ge, .int .i64 e.ho, .int .u16 e.sp, .string e.nm, .int .i64 e.va, .int .i64 e.fk, .int .i64 e.fc, .int .i64 e.fr] 40 (0, 0))) (st := 10) (by kernel_rfl) ?_
  generalize W.drew = W0 at *
  have Q0 := hid Q0'
  have HS : Hid (∀ w' : World, Touch (Value.slice a n c).ownBlock.toList W0 w' → w'.heap[b]? = some (.cells #[.slice a n c] 79 (0, 0)) ∧ w'.heap[k0]? = some (.cells #[.int .i64 e.at_, .int .i64 e.kd, .int .i64 e.cl, .int .i64 e.ca, .int .i64 e.ru, .int .i64 e.ge, .int .i64 e.ho, .int .u16 e.sp, .string e.nm, .int .i64 e.va, .int .i64 e.fk, .int .i64 e.fc, .int .i64 e.fr] 40 (0, 0))) := hid (fun w' t =>
    ⟨t.keep Q0'.bx (fun hm => Q0'.ap (Option.mem_toList.1 hm)), t.keep B0 (fun hm => by have := (H.out.ow.lt k0 (Option.mem_toList.1 hm)).2; have := HK0.out; omega)⟩)
  clear Q0'
  have S0 := HS.out W0 (Touch.refl _ _)
  have C0 : ∀ w' : World, (w'.heap[b]? = some (.cells #[.slice a n c] 79 (0, 0)) ∧ w'.heap[k0]? = some (.cells #[.int .i64 e.at_, .int .i64 e.kd, .int .i64 e.cl, .int .i64 e.ca, .int .i64 e.ru, .int .i64 e.ge, .int .i64 e.ho, .int .u16 e.sp, .string e.nm, .int .i64 e.va, .int .i64 e.fk, .int .i64 e.fc, .int .i64 e.fr] 40 (0, 0))) → w'.cell? ⟨b, 0, none⟩ = some (.slice a n c) := fun w' h => cell_at h.1 rfl
  have F0 : ∀ w' : World, (w'.heap[b]? = some (.cells #[.slice a n c] 79 (0, 0)) ∧ w'.heap[k0]? = some (.cells #[.int .i64 e.at_, .int .i64 e.kd, .int .i64 e.cl, .int .i64 e.ca, .int .i64 e.ru, .int .i64 e.ge, .int .i64 e.ho, .int .u16 e.sp, .string e.nm, .int .i64 e.va, .int .i64 e.fk, .int .i64 e.fc, .int .i64 e.fr] 40 (0, 0))) → w'.cell? ⟨k0, 0, none⟩ = some (.int .i64 e.at_) := fun w' h => cell_at h.2 rfl
  have F1 : ∀ w' : World, (w'.heap[b]? = some (.cells #[.slice a n c] 79 (0, 0)) ∧ w'.heap[k0]? = some (.cells #[.int .i64 e.at_, .int .i64 e.kd, .int .i64 e.cl, .int .i64 e.ca, .int .i64 e.ru, .int .i64 e.ge, .int .i64 e.ho, .int .u16 e.sp, .string e.nm, .int .i64 e.va, .int .i64 e.fk, .int .i64 e.fc, .int .i64 e.fr] 40 (0, 0))) → w'.cell? ⟨k0, 1, none⟩ = some (.int .i64 e.kd) := fun w' h => cell_at h.2 rfl
  have F2 : ∀ w' : World, (w'.heap[b]? = some (.cells #[.slice a n c] 79 (0, 0)) ∧ w'.heap[k0]? = some (.cells #[.int .i64 e.at_, .int .i64 e.kd, .int .i64 e.cl, .int .i64 e.ca, .int .i64 e.ru, .int .i64 e.ge, .int .i64 e.ho, .int .u16 e.sp, .string e.nm, .int .i64 e.va, .int .i64 e.fk, .int .i64 e.fc, .int .i64 e.fr] 40 (0, 0))) → w'.cell? ⟨k0, 2, none⟩ = some (.int .i64 e.cl) := fun w' h => cell_at h.2 rfl
  have F3 : ∀ w' : World, (w'.heap[b]? = some (.cells #[.slice a n c] 79 (0, 0)) ∧ w'.heap[k0]? = some (.cells #[.int .i64 e.at_, .int .i64 e.kd, .int .i64 e.cl, .int .i64 e.ca, .int .i64 e.ru, .int .i64 e.ge, .int .i64 e.ho, .int .u16 e.sp, .string e.nm, .int .i64 e.va, .int .i64 e.fk, .int .i64 e.fc, .int .i64 e.fr] 40 (0, 0))) → w'.cell? ⟨k0, 3, none⟩ = some (.int .i64 e.ca) := fun w' h => cell_at h.2 rfl
  have F4 : ∀ w' : World, (w'.heap[b]? = some (.cells #[.slice a n c] 79 (0, 0)) ∧ w'.heap[k0]? = some (.cells #[.int .i64 e.at_, .int .i64 e.kd, .int .i64 e.cl, .int .i64 e.ca, .int .i64 e.ru, .int .i64 e.ge, .int .i64 e.ho, .int .u16 e.sp, .string e.nm, .int .i64 e.va, .int .i64 e.fk, .int .i64 e.fc, .int .i64 e.fr] 40 (0, 0))) → w'.cell? ⟨k0, 4, none⟩ = some (.int .i64 e.ru) := fun w' h => cell_at h.2 rfl
  have F5 : ∀ w' : World, (w'.heap[b]? = some (.cells #[.slice a n c] 79 (0, 0)) ∧ w'.heap[k0]? = some (.cells #[.int .i64 e.at_, .int .i64 e.kd, .int .i64 e.cl, .int .i64 e.ca, .int .i64 e.ru, .int .i64 e.ge, .int .i64 e.ho, .int .u16 e.sp, .string e.nm, .int .i64 e.va, .int .i64 e.fk, .int .i64 e.fc, .int .i64 e.fr] 40 (0, 0))) → w'.cell? ⟨k0, 5, none⟩ = some (.int .i64 e.ge) := fun w' h => cell_at h.2 rfl
  have F6 : ∀ w' : World, (w'.heap[b]? = some (.cells #[.slice a n c] 79 (0, 0)) ∧ w'.heap[k0]? = some (.cells #[.int .i64 e.at_, .int .i64 e.kd, .int .i64 e.cl, .int .i64 e.ca, .int .i64 e.ru, .int .i64 e.ge, .int .i64 e.ho, .int .u16 e.sp, .string e.nm, .int .i64 e.va, .int .i64 e.fk, .int .i64 e.fc, .int .i64 e.fr] 40 (0, 0))) → w'.cell? ⟨k0, 6, none⟩ = some (.int .i64 e.ho) := fun w' h => cell_at h.2 rfl
  have F7 : ∀ w' : World, (w'.heap[b]? = some (.cells #[.slice a n c] 79 (0, 0)) ∧ w'.heap[k0]? = some (.cells #[.int .i64 e.at_, .int .i64 e.kd, .int .i64 e.cl, .int .i64 e.ca, .int .i64 e.ru, .int .i64 e.ge, .int .i64 e.ho, .int .u16 e.sp, .string e.nm, .int .i64 e.va, .int .i64 e.fk, .int .i64 e.fc, .int .i64 e.fr] 40 (0, 0))) → w'.cell? ⟨k0, 7, none⟩ = some (.int .u16 e.sp) := fun w' h => cell_at h.2 rfl
  have F8 : ∀ w' : World, (w'.heap[b]? = some (.cells #[.slice a n c] 79 (0, 0)) ∧ w'.heap[k0]? = some (.cells #[.int .i64 e.at_, .int .i64 e.kd, .int .i64 e.cl, .int .i64 e.ca, .int .i64 e.ru, .int .i64 e.ge, .int .i64 e.ho, .int .u16 e.sp, .string e.nm, .int .i64 e.va, .int .i64 e.fk, .int .i64 e.fc, .int .i64 e.fr] 40 (0, 0))) → w'.cell? ⟨k0, 8, none⟩ = some (.string e.nm) := fun w' h => cell_at h.2 rfl
  have F9 : ∀ w' : World, (w'.heap[b]? = some (.cells #[.slice a n c] 79 (0, 0)) ∧ w'.heap[k0]? = some (.cells #[.int .i64 e.at_, .int .i64 e.kd, .int .i64 e.cl, .int .i64 e.ca, .int .i64 e.ru, .int .i64 e.ge, .int .i64 e.ho, .int .u16 e.sp, .string e.nm, .int .i64 e.va, .int .i64 e.fk, .int .i64 e.fc, .int .i64 e.fr] 40 (0, 0))) → w'.cell? ⟨k0, 9, none⟩ = some (.int .i64 e.va) := fun w' h => cell_at h.2 rfl
  have F10 : ∀ w' : World, (w'.heap[b]? = some (.cells #[.slice a n c] 79 (0, 0)) ∧ w'.heap[k0]? = some (.cells #[.int .i64 e.at_, .int .i64 e.kd, .int .i64 e.cl, .int .i64 e.ca, .int .i64 e.ru, .int .i64 e.ge, .int .i64 e.ho, .int .u16 e.sp, .string e.nm, .int .i64 e.va, .int .i64 e.fk, .int .i64 e.fc, .int .i64 e.fr] 40 (0, 0))) → w'.cell? ⟨k0, 10, none⟩ = some (.int .i64 e.fk) := fun w' h => cell_at h.2 rfl
  have F11 : ∀ w' : World, (w'.heap[b]? = some (.cells #[.slice a n c] 79 (0, 0)) ∧ w'.heap[k0]? = some (.cells #[.int .i64 e.at_, .int .i64 e.kd, .int .i64 e.cl, .int .i64 e.ca, .int .i64 e.ru, .int .i64 e.ge, .int .i64 e.ho, .int .u16 e.sp, .string e.nm, .int .i64 e.va, .int .i64 e.fk, .int .i64 e.fc, .int .i64 e.fr] 40 (0, 0))) → w'.cell? ⟨k0, 11, none⟩ = some (.int .i64 e.fc) := fun w' h => cell_at h.2 rfl
  have F12 : ∀ w' : World, (w'.heap[b]? = some (.cells #[.slice a n c] 79 (0, 0)) ∧ w'.heap[k0]? = some (.cells #[.int .i64 e.at_, .int .i64 e.kd, .int .i64 e.cl, .int .i64 e.ca, .int .i64 e.ru, .int .i64 e.ge, .int .i64 e.ho, .int .u16 e.sp, .string e.nm, .int .i64 e.va, .int .i64 e.fk, .int .i64 e.fc, .int .i64 e.fr] 40 (0, 0))) → w'.cell? ⟨k0, 12, none⟩ = some (.int .i64 e.fr) := fun w' h => cell_at h.2 rfl
  clear B0 TV BV
  refine wpL_take (i := 0) (v := (.pointer (some ⟨b, 0, none⟩))) (some 39) rfl rfl (by kernel_rfl) (by kernel_rfl) (by kernel_rfl) (by kernel_rfl) (by kernel_rfl) (by decide) (fun _ _ _ h => h) (Or.inl ⟨by rfl, fun w' hS => (by go_simp)⟩) S0 ?_
  try simp only [Go.Act.put, List.setIfInBounds_toArray, List.set_cons_zero, List.set_cons_succ]
  refine wpL_take (i := 1) (v := (.pointer (some ⟨b, 0, none⟩))) (some 40) rfl rfl (by kernel_rfl) (by kernel_rfl) (by kernel_rfl) (by kernel_rfl) (by kernel_rfl) (by decide) (fun _ _ _ h => h) (Or.inl ⟨by rfl, fun w' hS => (by go_simp)⟩) S0 ?_
  try simp only [Go.Act.put, List.setIfInBounds_toArray, List.set_cons_zero, List.set_cons_succ]
  refine wpL_take (i := 2) (v := (.pointer (some ⟨b, 0, none⟩))) (some 41) rfl rfl (by kernel_rfl) (by kernel_rfl) (by kernel_rfl) (by kernel_rfl) (by kernel_rfl) (by decide) (fun _ _ _ h => h) (Or.inl ⟨by rfl, fun w' hS => (by go_simp)⟩) S0 ?_
  try simp only [Go.Act.put, List.setIfInBounds_toArray, List.set_cons_zero, List.set_cons_succ]
  refine wpL_take (i := 3) (v := (.pointer (some ⟨b, 0, none⟩))) (some 42) rfl rfl (by kernel_rfl) (by kernel_rfl) (by kernel_rfl) (by kernel_rfl) (by kernel_rfl) (by decide) (fun _ _ _ h => h) (Or.inl ⟨by rfl, fun w' hS => (by go_simp)⟩) S0 ?_
  try simp only [Go.Act.put, List.setIfInBounds_toArray, List.set_cons_zero, List.set_cons_succ]
  refine wpL_take (i := 4) (v := (.slice a n c)) (some 43) rfl rfl (by kernel_rfl) (by kernel_rfl) (by kernel_rfl) (by kernel_rfl) (by kernel_rfl) (by decide) (fun _ _ _ h => h) (Or.inl ⟨by rfl, fun w' hS => (by have z0 := C0 _ hS; go_simp)⟩) S0 ?_
  try simp only [Go.Act.put, List.setIfInBounds_toArray, List.set_cons_zero, List.set_cons_succ]
  refine wpL_take (i := 5) (v := (.agg #[.int .i64 e.at_, .int .i64 e.kd, .int .i64 e.cl, .int .i64 e.ca, .int .i64 e.ru, .int .i64 e.ge, .int .i64 e.ho, .int .u16 e.sp, .string e.nm, .int .i64 e.va, .int .i64 e.fk, .int .i64 e.fc, .int .i64 e.fr])) (some 44) rfl rfl (by kernel_rfl) (by kernel_rfl) (by kernel_rfl) (by kernel_rfl) (by kernel_rfl) (by decide) (fun _ _ _ h => h) (Or.inl ⟨by rfl, fun w' hS => (by have z0 := F0 _ hS; have z1 := F1 _ hS; have z2 := F2 _ hS; have z3 := F3 _ hS; have z4 := F4 _ hS; have z5 := F5 _ hS; have z6 := F6 _ hS; have z7 := F7 _ hS; have z8 := F8 _ hS; have z9 := F9 _ hS; have z10 := F10 _ hS; have z11 := F11 _ hS; have z12 := F12 _ hS; go_simp)⟩) S0 ?_
  try simp only [Go.Act.put, List.setIfInBounds_toArray, List.set_cons_zero, List.set_cons_succ]
  refine wpL_ready (rs := [6]) (by kernel_rfl) (by simp) (AllL.cons (o := { dst := some 45, op := Op.buildSlice 22 1 #[(0, Operand.tmp 44)], type := 22, pos := _, after := #[{ on := 5, ground := Ground.data }], guard := none }) rfl (fun K' hK => ?_) AllL.nil)
  rw [if_pos (by rfl)]
  go_simp
  have t1 : Touch (Value.slice a n c).ownBlock.toList W0 (W0.alloc (.cells #[.int .i64 e.at_, .int .i64 e.kd, .int .i64 e.cl, .int .i64 e.ca, .int .i64 e.ru, .int .i64 e.ge, .int .i64 e.ho, .int .u16 e.sp, .string e.nm, .int .i64 e.va, .int .i64 e.fk, .int .i64 e.fc, .int .i64 e.fr] 40)) := (Touch.refl _ W0).alloc _
  have S1 := HS.out _ t1
  refine hK.out _ _ (fun _ => S1) ?_
  clear hK
  try simp only [Go.Act.put, List.setIfInBounds_toArray, List.set_cons_zero, List.set_cons_succ]
  refine wpL_ready (rs := [7]) (by kernel_rfl) (by simp) (AllL.cons (o := { dst := some 46, op := Op.call { callee := Callee.builtin Builtin.append, args := #[Operand.tmp 43, Operand.tmp 45], argTypes := #[22, 22] }, type := 22, pos := _, after := #[{ on := 4, ground := Ground.data }, { on := 6, ground := Ground.data }], guard := none }) rfl (fun K' hK => ?_) AllL.nil)
  rw [if_pos (by rfl)]
  have O1 := own_touch Q0.out.ow ((Touch.refl [] W0).alloc (.cells #[.int .i64 e.at_, .int .i64 e.kd, .int .i64 e.cl, .int .i64 e.ca, .int .i64 e.ru, .int .i64 e.ge, .int .i64 e.ho, .int .u16 e.sp, .string e.nm, .int .i64 e.va, .int .i64 e.fk, .int .i64 e.fc, .int .i64 e.fr] 40)) (by simp)
  refine wp_append_rs _ _ 22 40 rfl _ 13 112 infoE Tryz.underlying22 rfl (by decide) B (Value.slice a n c) n (evs L) rfl (HnL.out ▸ O1) (.slice (some ⟨W0.heap.size, 0, none⟩) 1 1) 1 _ rfl (Rs.new W0 #[.int .i64 e.at_, .int .i64 e.kd, .int .i64 e.cl, .int .i64 e.ca, .int .i64 e.ru, .int .i64 e.ge, .int .i64 e.ho, .int .u16 e.sp, .string e.nm, .int .i64 e.va, .int .i64 e.fk, .int .i64 e.fc, .int .i64 e.fr] 40 13 rfl) (by simp [Value.oneCell']) (by have := HLn.out; unfold maxLen; omega) (by have := HLn.out; omega) (by have := HBw.out; have := Q0.out.lt; simp; omega) ?_
  intro v6 w6 o6 gr6 p6
  obtain ⟨a6, c6, e6⟩ := own_form o6
  subst e6
  have t6 : Touch (Value.slice a n c).ownBlock.toList W0 w6 := t1.grown gr6 (fun q hq => Or.inl (by simp [hq]))
  have S6 := HS.out _ t6
  have D6 : Hid (AddP (w6.setCell ⟨b, 0, none⟩ (.slice a6 (n + 1) c6)) w B b (Value.slice a n c) L e) := addP_of Q0.out T0.out t6 HnL.out HLn.out o6 p6
  have f6 : w6.frozen? ⟨b, 0, none⟩ = false := froz_at S6.1 0
  clear o6 gr6 p6 O1 t6
  refine hK.out _ _ (fun _ => S6) ?_
  clear hK
  try simp only [Go.Act.put, List.setIfInBounds_toArray, List.set_cons_zero, List.set_cons_succ]
  refine wpL_takeY (i := 8) (v := (.pointer (some ⟨b, 0, none⟩))) (some 47) rfl rfl (by kernel_rfl) (by kernel_rfl) (by kernel_rfl) (by decide) (fun _ _ _ h => h) (Or.inl ⟨by rfl, fun w' hS => (by go_simp)⟩) (fun _ => S6) ?_
  try simp only [Go.Act.put, List.setIfInBounds_toArray, List.set_cons_zero, List.set_cons_succ]
  refine wpL_take (i := 9) (v := (.pointer (some ⟨b, 0, none⟩))) (some 48) rfl rfl (by kernel_rfl) (by kernel_rfl) (by kernel_rfl) (by kernel_rfl) (by kernel_rfl) (by decide) (fun _ _ _ h => h) (Or.inl ⟨by rfl, fun w' hS => (by go_simp)⟩) S6 ?_
  try simp only [Go.Act.put, List.setIfInBounds_toArray, List.set_cons_zero, List.set_cons_succ]
  refine wpL_ready (rs := [10]) (by kernel_rfl) (by simp) (AllL.cons (o := { dst := none, op := Op.store 22 (Operand.tmp 48) (Operand.tmp 46), type := 0, pos := _, after := #[{ on := 9, ground := Ground.data }, { on := 7, ground := Ground.data }, { on := 7, ground := Ground.chain }, { on := 0, ground := Ground.phase }, { on := 1, ground := Ground.phase }, { on := 2, ground := Ground.phase }, { on := 3, ground := Ground.phase }, { on := 4, ground := Ground.phase }, { on := 5, ground := Ground.phase }, { on := 6, ground := Ground.phase }, { on := 7, ground := Ground.phase }], guard := none }) rfl (fun K' hK => ?_) AllL.nil)
  rw [if_pos (by rfl)]
  have g6 := cell_at S6.1 (j := 0) rfl
  clear F0 F1 F2 F3 F4 F5 F6 F7 F8 F9 F10 F11 F12 C0
  go_simp
  refine hK.out _ _ (fun h => absurd h (by decide)) ?_
  clear hK
  try simp only [Go.Act.put, List.setIfInBounds_toArray, List.set_cons_zero, List.set_cons_succ]
  refine wpL_done (by kernel_rfl) ?_ _
  go_wp2_with fail
  go_ret
  exact addQ_ok HV.out D6.out
theorem add_ {w : World} {B b : Nat} {v : Value} {L : List Ez} (h : Tq w B b v L) (hB : B ≤ b) (e : Ez) (hk : Tk w) (hs : e.nm.size ≤ maxLen) : Calls Tryz.prog 20 #[PT b, e.val] w fun r w' => AddQ r w' w B b v L e := by
  cases h1 : chkE e with
  | false => exact add_chk h hB e hk hs h1
  | true =>
    by_cases h2 : L.length = 1048576
    · exact add_full h hB e hk hs h1 h2
    · obtain ⟨x, bt, hl, HA⟩ := at_last h e
      have hV : addN L e = if (bt && decide (e.at_ < x.at_)) = true then 101 else 0 := by unfold addN; rw [h1, if_pos rfl, if_neg h2, hl]
      cases bt with
      | false => exact add_ok0 h hB e hk hs h1 h2 x (by rw [hV]; rfl) HA
      | true =>
        by_cases h3 : e.at_ < x.at_
        · exact add_back h hB e hk hs h1 h2 x h3 (by rw [hV]; simp [h3]) HA
        · exact add_ok1 h hB e hk hs h1 h2 x h3 (by rw [hV]; simp [h3]) HA
end Go.Proofs.YtcdikdiopklcgaaGreatDoor.Tr
