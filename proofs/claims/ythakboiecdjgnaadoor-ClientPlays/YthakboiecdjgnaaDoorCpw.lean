/- The law ClientPlays, walked; the conditions: the table holds what the start lays, the program and the acts lie in memory. -/
import Derived.Test.YthakboiecdjgnaaDoorCol
import Derived.Test.YthakboiecdjgnaaDoorCnl
namespace Go.Proofs.YthakboiecdjgnaaDoor.Ci
open Go.RowKit Go.Maps Go.ChangeMaps
set_option linter.unusedVariables false
set_option linter.unusedSimpArgs false
section
variable {w : World} {ops : Array Oper} {rest : List Oper} {o : Oper} {a : Act} {Q : Exit → Act → World → Prop}
/-- A program laid behind an empty row that a call owns. -/
theorem wpList_append_dosL (hgd : o.guard = none) (s x : Operand) (ho : o.op = .call { callee := .builtin .append, args := #[s, x], argTypes := #[22, 22] })
    (base : Nat) (v : Value) (hs : a.eval s = v) (hown : w.ownsRow base 47 5 v 0 [])
    (ad : Option Addr) (c : Nat) (L : List Dz) (hx : a.eval x = .slice ad L.length c) (hu : Sl w ad L) (hl : L.length ≤ 2932031007317) (hbase : base ≤ w.heap.size)
    (h : ∀ v' w', w'.ownsRow base 47 5 v' L.length (cellsD L) → w.grownBy w' v.ownBlock → (v'.ownBlock = v.ownBlock ∨ v'.ownBlock = some w.heap.size) → wpList Tryd.prog ops Q rest (a.put o.dst v') w') : wpList Tryd.prog ops Q (o :: rest) a w := by
  obtain ⟨i3, hf, hz0, hz1, hz2⟩ := info_parts infoD
  rcases Nat.eq_zero_or_pos L.length with e0 | e0
  · have eL : L = [] := List.length_eq_zero_iff.1 e0
    subst eL
    cases ad with
    | none =>
      have hrun := run_append_emp (P := Tryd.prog) (w := w) base 22 o.type 47 i3 5 Tryd.underlying22 hf v 0 [] hown c
      refine wpList_plain hgd fun K' hK' => ?_
      unfold Oper.wp
      have hx' : a.eval x = .slice none 0 c := hx
      simp [execOp, ho, resolve, invoke, builtin, hs, hx', hrun, Result.andThen]
      exact hK' _ _ (h v w hown (World.grownBy.refl _ _) (Or.inl rfl))
    | some ad => exact wpList_append_own_at w hgd s x 22 ho base 47 i3 _ 5 48 Tryd.underlying22 hf hz0 hz1 hz2 rfl (by decide) v 0 [] hs hown ad 0 c [] hx rfl (fun j y hy => by simp at hy) (fun y hy => by cases hy) (by unfold maxLen; omega) (by omega) hbase (fun v' w' q1 q2 q3 q4 => h v' w' (by simpa [cellsD] using q1) q2 q4)
  · obtain ⟨b, off, rfl, hc⟩ := hu.flat e0
    refine wpList_append_own_at w hgd s x 22 ho base 47 i3 _ 5 48 Tryd.underlying22 hf hz0 hz1 hz2 rfl (by decide) v 0 [] hs hown ⟨b, off, none⟩ L.length c (cellsD L) hx (cellsD_len L) (fun j y hy => ?_) (cellsD_one L) (by unfold maxLen; omega) (by omega) hbase (fun v' w' q1 q2 q3 q4 => h v' w' (by simpa using q1) q2 q4)
    rw [show (⟨b, off, none⟩ : Addr).add j = ⟨b, off + j, none⟩ by simp [Addr.add]]
    exact hc j y hy
end
/-- What stands between two acts. -/
def Lq (w : World) (q : Nat) (L : List Dz) (i b : Nat) (wr : World) : Prop := Touch [] w wr ∧ ∃ pv lv cs pv2 lv2 S T, Iv w.heap.size wr b pv lv cs pv2 lv2 S T ∧ wr.heap[q]? = some (.cells cs 63 (0, 0)) ∧ S.log.length ≤ i ∧ S.L = L ∧ w.heap.size ≤ q
theorem Iv.notq {B b q : Nat} {w : World} {pv lv pv2 lv2 : Value} {cs c : Array Value} {S : Cs} {T : Ls} (h : Iv B w b pv lv cs pv2 lv2 S T) (hq : w.heap[q]? = some (.cells c 63 (0, 0))) : ¬ q ∈ b :: lv.ownBlock.toList := fun hm => by
  rcases List.mem_cons.1 hm with e | e
  · obtain ⟨c1, h1, _⟩ := h.q.blk
    rw [← e, hq] at h1
    simp at h1
  · obtain ⟨c2, h2⟩ := own_kind h.q.lg (Option.mem_toList.1 e)
    rw [hq] at h2
    simp at h2
theorem Iv.owns {B b : Nat} {w : World} {pv lv pv2 lv2 : Value} {cs : Array Value} {S : Cs} {T : Ls} (h : Iv B w b pv lv cs pv2 lv2 S T) : ∀ k ∈ b :: lv.ownBlock.toList, B ≤ k := fun k hm => by
  rcases List.mem_cons.1 hm with e | e
  · rw [e]; exact h.bb
  · exact h.lb k (Option.mem_toList.1 e)
set_option maxRecDepth 20000 in
set_option maxHeartbeats 8000000 in
theorem plays_no (L : List Dz) (a : Option Addr) (c : Nat) (X : List AcA) (a2 : Option Addr) (c2 : Nat) (w : World) (hk : Kd w) (hs : Sl w a L) (hw : Oks L) (hl : L.length ≤ 2932031007317) (hg : ¬ Good L) :
    Calls Tryd.prog 5 #[.slice a L.length c, .slice a2 X.length c2] w fun e w' => e = .returned (.bool true) ∧ Touch [] w w' := by
  have h0 : ((chkZ L).2 == 0) = false := by
    rcases chk_bad hg with h | h <;> rw [h] <;> rfl
  have HNW := hid (new_no L a c w hk hs hw (by omega) hg)
  have HA := hid (fun w' (t : Touch [] w w') => awake_ w' (hk.touch t))
  have HR := hid (fun w' (t : Touch [] w w') => ref_ L a c w' (hs.touch t) (by omega))
  have HCK := hid (fun w' a' c' (h : Sl w' a' L) => rcheck_ L a' c' w' h hw)
  have HS := hid (fun w' (t : Touch [] w w') => hs.touch t)
  have HLL := hid hl
  clear hk hs hw hg hl
  generalize (chkZ L).2 = x at *
  generalize (chkZ L).1 = y at *
  go_enter Tryd.func5, Tryd.ntmps5
  go_wp2_with (first
    | (go_at_call 17; refine HNW.out.mono ?_; rintro e w1 ⟨rfl, t1⟩; have T1 := hid t1; clear t1)
    | (go_at_call 9; refine (HR.out _ T1.out).mono ?_; rintro e w2 ⟨a', c', rfl, o2, t2⟩; have O2 := hid (sl_ownT o2); have T2 := hid (T1.out.trans' t2); clear t2 o2)
    | (go_at_call 8; refine (HCK.out _ _ _ O2.out).mono ?_; rintro e w3 ⟨rfl, t3⟩; have T3 := hid (T2.out.trans' t3); clear t3)
    | (go_at_call 14; refine (HA.out _ T3.out).mono ?_; rintro e w4 ⟨rfl, t4⟩; have T4 := hid (T3.out.trans' t4); clear t4)
    | (at_builtin; refine wpList_append_dosL rfl _ _ rfl w4.heap.size _ rfl (World.ownsRow_made (e := 47) (size := 5) w4 #[] 0 (Nat.le_refl _) (by unfold maxLen; omega) rfl) _ _ L rfl (HS.out _ (T4.out.alloc _)) (by have := HLL.out; omega) (by simp) ?_; intro v5 w5 o5 g5 p5; obtain ⟨a5, c5, e5⟩ := own_form o5; subst e5; have O5 := hid o5; have T5 := hid (T4.out.trans' (touch_grown ((Touch.refl [] w4).alloc (.cells #[] 47)) g5 (World.ownsRow_made (e := 47) (size := 5) w4 #[] 0 (Nat.le_refl _) (by unfold maxLen; omega) rfl) (Nat.le_refl _))); clear o5 g5 p5)
    | (refine wpList_storeT bigS rfl _ _ rfl w5.heap.size _ (Tryd.zeroCells63.setIfInBounds 0 (.slice a5 L.length c5)) 63 rfl rfl (heap_alloc_new w5 _) zs_size (zs_new rfl).1 (zs_new rfl).2 ?_; intro w6 h6 t6 s6; have H6 := hid h6; have z6 : Touch [] w5 w6 := ((Touch.refl [] w5).alloc _).trans t6 (fun k hk => Or.inr (by simp at hk; omega)); have T6 := hid (T5.out.trans' z6); clear h6 t6 s6 z6))
  go_loopw [5, 11] (fun c5 i wr => c5 = .pointer none ∧ i = .int .i64 0 ∧ Hid (Touch [] w wr)) (fun _ _ _ => 0)
  case atStart => exact ⟨rfl, rfl, hid T6.out⟩
  case round =>
    obtain ⟨rfl, rfl, HG⟩ := hrel
    by_cases hX : 0 < X.length
    · have hz : (0 : Int) < (X.length : Int) := by omega
      go_wp2_with fail
      go_ret
      exact ⟨rfl, HG.out⟩
    · have hz : ¬ (0 : Int) < (X.length : Int) := by omega
      go_wp2_with fail
      go_ret
      exact ⟨rfl, HG.out⟩
set_option maxRecDepth 20000 in
set_option maxHeartbeats 16000000 in
theorem plays_good (L : List Dz) (a : Option Addr) (c : Nat) (X : List AcA) (a2 : Option Addr) (c2 : Nat) (w : World) (hk : Kd w) (hs : Sl w a L) (hw : Oks L) (hx : SlX w a2 X) (hxl : X.length ≤ 1759218604390) (hg : Good L) :
    Calls Tryd.prog 5 #[.slice a L.length c, .slice a2 X.length c2] w fun e w' => e = .returned (.bool true) ∧ Touch [] w w' := by
  have HNW := hid (new_ok L a c w hk hs hw hg)
  have HA := hid (fun w' (t : Touch [] w w') => awake_ w' (hk.touch t))
  have HR := hid (fun w' (t : Touch [] w w') => ref_ L a c w' (hs.touch t) (by have := hg.1; omega))
  have HCK : Hid (∀ w' a' c', Sl w' a' L → Calls Tryd.prog 8 #[.slice a' L.length c'] w' fun e w'' => e = .returned (.tuple #[.int .i64 0, .int .i64 0]) ∧ Touch [] w' w'') := hid (fun w' a' c' (h : Sl w' a' L) => (rcheck_ L a' c' w' h hw).mono fun e w'' q => by rw [chk_fst hg] at q; exact q)
  have HS := hid (fun w' (t : Touch [] w w') => hs.touch t)
  have HLL := hid hg.1
  have HX := hid hx
  have HXL := hid hxl
  clear hk hs hw hg hx hxl
  go_enter Tryd.func5, Tryd.ntmps5
  go_wp2_with (first
    | (go_at_call 17; refine HNW.out.mono ?_; rintro e w1 ⟨b1, pv1, rfl, t1, hb1, hp1, q1⟩; have T1 := hid t1; have Q1 := hid q1; have HB1 := hid hb1; clear t1 q1 hb1 hp1)
    | (go_at_call 9; refine (HR.out _ T1.out).mono ?_; rintro e w2 ⟨a', c', rfl, o2, t2⟩; have O2 := hid (sl_ownT o2); have T2 := hid (T1.out.trans' t2); have U2 := hid t2; clear t2 o2)
    | (go_at_call 8; refine (HCK.out _ _ _ O2.out).mono ?_; rintro e w3 ⟨rfl, t3⟩; have T3 := hid (T2.out.trans' t3); have U3 := hid (U2.out.trans' t3); clear t3)
    | (go_at_call 14; refine (HA.out _ T3.out).mono ?_; rintro e w4 ⟨rfl, t4⟩; have T4 := hid (T3.out.trans' t4); have U4 := hid (U3.out.trans' t4); clear t4)
    | (at_builtin; refine wpList_append_dosL rfl _ _ rfl w4.heap.size _ rfl (World.ownsRow_made (e := 47) (size := 5) w4 #[] 0 (Nat.le_refl _) (by unfold maxLen; omega) rfl) _ _ L rfl (HS.out _ (T4.out.alloc _)) (by have := HLL.out; omega) (by simp) ?_; intro v5 w5 o5 g5 p5; obtain ⟨a5, c5, e5⟩ := own_form o5; subst e5; have O5 := hid o5; have z5 := touch_grown ((Touch.refl [] w4).alloc (.cells #[] 47)) g5 (World.ownsRow_made (e := 47) (size := 5) w4 #[] 0 (Nat.le_refl _) (by unfold maxLen; omega) rfl) (Nat.le_refl _); have T5 := hid (T4.out.trans' z5); have U5 := hid (U4.out.trans' z5); clear o5 g5 p5 z5)
    | (refine wpList_storeT bigS rfl _ _ rfl w5.heap.size _ (Tryd.zeroCells63.setIfInBounds 0 (.slice a5 L.length c5)) 63 rfl rfl (heap_alloc_new w5 _) zs_size (zs_new rfl).1 (zs_new rfl).2 ?_; intro w6 h6 t6 s6; have H6 := hid h6; have z6 : Touch [] w5 w6 := ((Touch.refl [] w5).alloc _).trans t6 (fun k hk => Or.inr (by simp at hk; omega)); have T6 := hid (T5.out.trans' z6); have U6 := hid (U5.out.trans' z6); have Z6 := hid z6; clear h6 t6 s6 z6))
  obtain ⟨q, hqe⟩ : ∃ q, q = w5.heap.size := ⟨_, rfl⟩
  have hqw : w.heap.size ≤ q := by rw [hqe]; exact T5.out.size
  have HST : Hid (Lq w q L 0 b1 w6) := hid ⟨T6.out, _, _, _, _, _, _, _, iv_new (Q1.out.touch U6.out) (own_touch (own_base O5.out (Nat.zero_le _)) Z6.out (by simp)) HB1.out, by rw [hqe]; exact H6.out, Nat.le_refl _, rfl, hqw⟩
  rw [← hqe]
  have HQ := hid hqw
  clear hqe hqw Q1 O5 U5 HB1 HNW HA HR HCK HS O2 U2 U3 U4 U6 Z6 H6
  go_loopw [5, 11] (fun c5 i wr => ∃ (i' bb : Nat), i = .int .i64 i' ∧ i' ≤ X.length ∧ c5 = .pointer (some ⟨bb, 0, none⟩) ∧ Hid (Lq w q L i' bb wr)) (fun _ i _ => X.length - (intOf i).toNat)
  case atStart => exact ⟨0, b1, rfl, Nat.zero_le _, rfl, HST⟩
  case round =>
    clear HST T1 T2 T3 T4 T5 T6
    obtain ⟨i, bb, rfl, hi, rfl, HG⟩ := hrel
    obtain ⟨wo, hwo⟩ : ∃ wo, wo = wr := ⟨_, rfl⟩
    rw [← hwo] at HG ⊢
    clear hwo wr
    have hxl := HXL.out
    by_cases hlt : i < X.length
    · have hz : (i : Int) < (X.length : Int) := by omega
      obtain ⟨tw, pv, lv, cs, pv2, lv2, S, T, iv, hq, hlg, hL, hwq⟩ := HG.out
      obtain ⟨xb, xo, rfl, xr⟩ := HX.out (by omega)
      have HONE := hid (fun W (t : Touch [] wo W) => one_ (iv.touch t) X[i].kd X[i].n X[i].cl (gz X[i].g) (by have := HXL.out; omega))
      have HXC : Hid (∀ W, Touch [] w W → RowAcA W xb xo X) := hid (fun W t => xr.keep t)
      have HNB := hid iv.owns
      have HNQ := hid (iv.notq hq)
      have HN := hid iv.siz.1
      have HLG := hid (And.intro hlg hL)
      have HTW := hid tw
      have HQW := hid hq
      clear HG tw iv hq hlg hL hwq xr
      obtain ⟨xx, hxx⟩ : ∃ xx, X[i] = xx := ⟨_, rfl⟩
      rw [hxx] at HONE
      obtain ⟨k0, k1', k2', ⟨p0, p1, ⟨p2, ⟨p3, p4, p5⟩⟩, p6⟩⟩ := xx
      have HXX := hid hxx
      clear hxx
      dsimp only [actv, gz] at HONE
      go_upto_region 10 with fail
      obtain ⟨W0, hW0⟩ : ∃ W0, W0 = wo.drew := ⟨_, rfl⟩
      have td : Touch [] wo W0 := by rw [hW0]; exact (Touch.refl _ _).drew
      have S0 : (fun (w' : World) => Touch [] w w' ∧ w'.heap[q]? = some (.cells cs 63 (0, 0))) W0 := And.intro (HTW.out.trans' td) (td.keep HQW.out (by simp))
      dsimp only at S0
      have HU := hid (HONE.out W0 td)
      have X0 : ∀ w' : World, (Touch [] w w' ∧ w'.heap[q]? = some (.cells cs 63 (0, 0))) → w'.cell? ⟨xb, xo + i * 10, none⟩ = some (.int .i64 k0) := fun w' h => by have z := (HXC.out w' h.1).c0 i hlt; rw [HXX.out] at z; exact z
      have X1 : ∀ w' : World, (Touch [] w w' ∧ w'.heap[q]? = some (.cells cs 63 (0, 0))) → w'.cell? ⟨xb, xo + i * 10 + 1, none⟩ = some (.int .i64 k1') := fun w' h => by have z := (HXC.out w' h.1).c1 i hlt; rw [HXX.out] at z; exact z
      have X2 : ∀ w' : World, (Touch [] w w' ∧ w'.heap[q]? = some (.cells cs 63 (0, 0))) → w'.cell? ⟨xb, xo + i * 10 + 2, none⟩ = some (.int .i64 k2') := fun w' h => by have z := (HXC.out w' h.1).c2 i hlt; rw [HXX.out] at z; exact z
      have X3 : ∀ w' : World, (Touch [] w w' ∧ w'.heap[q]? = some (.cells cs 63 (0, 0))) → w'.cell? ⟨xb, xo + i * 10 + 3, none⟩ = some (.int .i64 p0) := fun w' h => by have z := (HXC.out w' h.1).c3 i hlt; rw [HXX.out] at z; exact z
      have X4 : ∀ w' : World, (Touch [] w w' ∧ w'.heap[q]? = some (.cells cs 63 (0, 0))) → w'.cell? ⟨xb, xo + i * 10 + 4, none⟩ = some (.int .i64 p1) := fun w' h => by have z := (HXC.out w' h.1).c4 i hlt; rw [HXX.out] at z; exact z
      have X5 : ∀ w' : World, (Touch [] w w' ∧ w'.heap[q]? = some (.cells cs 63 (0, 0))) → w'.cell? ⟨xb, xo + i * 10 + 5, none⟩ = some (.int .i64 p2) := fun w' h => by have z := (HXC.out w' h.1).c5 i hlt; rw [HXX.out] at z; exact z
      have X6 : ∀ w' : World, (Touch [] w w' ∧ w'.heap[q]? = some (.cells cs 63 (0, 0))) → w'.cell? ⟨xb, xo + i * 10 + 6, none⟩ = some (.int .i64 p3) := fun w' h => by have z := (HXC.out w' h.1).c6 i hlt; rw [HXX.out] at z; exact z
      have X7 : ∀ w' : World, (Touch [] w w' ∧ w'.heap[q]? = some (.cells cs 63 (0, 0))) → w'.cell? ⟨xb, xo + i * 10 + 7, none⟩ = some (.int .i64 p4) := fun w' h => by have z := (HXC.out w' h.1).c7 i hlt; rw [HXX.out] at z; exact z
      have X8 : ∀ w' : World, (Touch [] w w' ∧ w'.heap[q]? = some (.cells cs 63 (0, 0))) → w'.cell? ⟨xb, xo + i * 10 + 8, none⟩ = some (.int .i64 p5) := fun w' h => by have z := (HXC.out w' h.1).c8 i hlt; rw [HXX.out] at z; exact z
      have X9 : ∀ w' : World, (Touch [] w w' ∧ w'.heap[q]? = some (.cells cs 63 (0, 0))) → w'.cell? ⟨xb, xo + i * 10 + 9, none⟩ = some (.int .i64 p6) := fun w' h => by have z := (HXC.out w' h.1).c9 i hlt; rw [HXX.out] at z; exact z
      refine wp_region_L (S := fun w' => Touch [] w w' ∧ w'.heap[q]? = some (.cells cs 63 (0, 0))) (st := 12) (by kernel_rfl) ?_
      rw [← hW0]
      clear hW0 td HTW HQW HONE HXC HXX
      refine wpL_take (i := 0) (v := (.pointer (some ⟨bb, 0, none⟩))) (some 64) rfl rfl (by kernel_rfl) (by kernel_rfl) (by kernel_rfl) (by kernel_rfl) (by kernel_rfl) (by decide) (fun _ _ _ h => h) (Or.inl ⟨by rfl, fun w' hS => (by go_simp)⟩) S0 ?_
      try simp only [Go.Act.put, List.setIfInBounds_toArray, List.set_cons_zero, List.set_cons_succ]
      refine wpL_take (i := 1) (v := (.agg cs)) (some 65) rfl rfl (by kernel_rfl) (by kernel_rfl) (by kernel_rfl) (by kernel_rfl) (by kernel_rfl) (by decide) (fun _ _ _ h => h) (Or.inl ⟨by rfl, fun w' hS => exec_loadT bigS _ rfl rfl hS.2 HN.out⟩) S0 ?_
      try simp only [Go.Act.put, List.setIfInBounds_toArray, List.set_cons_zero, List.set_cons_succ]
      refine wpL_take (i := 2) (v := (.slice (some ⟨xb, xo, none⟩) X.length c2)) (some 66) rfl rfl (by kernel_rfl) (by kernel_rfl) (by kernel_rfl) (by kernel_rfl) (by kernel_rfl) (by decide) (fun _ _ _ h => h) (Or.inl ⟨by rfl, fun w' hS => (by go_simp)⟩) S0 ?_
      try simp only [Go.Act.put, List.setIfInBounds_toArray, List.set_cons_zero, List.set_cons_succ]
      refine wpL_take (i := 3) (v := (.int .i64 (i : Nat))) (some 67) rfl rfl (by kernel_rfl) (by kernel_rfl) (by kernel_rfl) (by kernel_rfl) (by kernel_rfl) (by decide) (fun _ _ _ h => h) (Or.inl ⟨by rfl, fun w' hS => (by go_simp)⟩) S0 ?_
      try simp only [Go.Act.put, List.setIfInBounds_toArray, List.set_cons_zero, List.set_cons_succ]
      refine wpL_take (i := 4) (v := (.pointer (some ⟨xb, xo + i * 10, none⟩))) (some 68) rfl rfl (by kernel_rfl) (by kernel_rfl) (by kernel_rfl) (by kernel_rfl) (by kernel_rfl) (by decide) (fun _ _ _ h => h) (Or.inl ⟨by rfl, fun w' hS => (by go_simp)⟩) S0 ?_
      try simp only [Go.Act.put, List.setIfInBounds_toArray, List.set_cons_zero, List.set_cons_succ]
      refine wpL_take (i := 5) (v := (.agg #[.int .i64 k0, .int .i64 k1', .int .i64 k2', .int .i64 p0, .int .i64 p1, .int .i64 p2, .int .i64 p3, .int .i64 p4, .int .i64 p5, .int .i64 p6])) (some 69) rfl rfl (by kernel_rfl) (by kernel_rfl) (by kernel_rfl) (by kernel_rfl) (by kernel_rfl) (by decide) (fun _ _ _ h => h) (Or.inl ⟨by rfl, fun w' hS => (by have z0 := X0 _ hS; have z1 := X1 _ hS; have z2 := X2 _ hS; have z3 := X3 _ hS; have z4 := X4 _ hS; have z5 := X5 _ hS; have z6 := X6 _ hS; have z7 := X7 _ hS; have z8 := X8 _ hS; have z9 := X9 _ hS; go_simp)⟩) S0 ?_
      try simp only [Go.Act.put, List.setIfInBounds_toArray, List.set_cons_zero, List.set_cons_succ]
      refine wpL_ready (rs := [6]) (by kernel_rfl) (by simp) (AllL.cons (o := { dst := some 70, op := Op.call { callee := Callee.value (Operand.func 18), args := #[Operand.tmp 64, Operand.tmp 65, Operand.tmp 69], argTypes := #[50, 63, 67] }, type := 64, pos := _, after := #[{ on := 0, ground := Ground.data }, { on := 1, ground := Ground.data }, { on := 5, ground := Ground.data }], guard := none }) rfl (fun K' hK => ?_) AllL.nil)
      rw [if_pos (by rfl)]
      go_simp
      refine HU.out.mono ?_
      rintro e w5 ⟨b2, pv5, lv5, cs5, pv6, lv6, S5, T5, rfl, iv5, hl5, hL5, t5⟩
      have Z5 := And.intro (S0.1.trans t5 (fun k hk => Or.inr (HNB.out k hk))) (t5.keep S0.2 HNQ.out)
      clear t5
      refine hK.out _ _ (fun _ => Z5) ?_
      clear hK
      try simp only [Go.Act.put, List.setIfInBounds_toArray, List.set_cons_zero, List.set_cons_succ]
      refine wpL_take (i := 7) (v := (.tuple #[(.pointer (some ⟨b2, 0, none⟩)), (.agg cs5), (.bool true)])) (some 63) rfl rfl (by kernel_rfl) (by kernel_rfl) (by kernel_rfl) (by kernel_rfl) (by kernel_rfl) (by decide) (fun _ _ _ h => h) (Or.inl ⟨by rfl, fun w' hS => (by go_simp)⟩) Z5 ?_
      try simp only [Go.Act.put, List.setIfInBounds_toArray, List.set_cons_zero, List.set_cons_succ]
      refine wpL_take (i := 8) (v := (.pointer (some ⟨b2, 0, none⟩))) (some 71) rfl rfl (by kernel_rfl) (by kernel_rfl) (by kernel_rfl) (by kernel_rfl) (by kernel_rfl) (by decide) (fun _ _ _ h => h) (Or.inl ⟨by rfl, fun w' hS => (by go_simp)⟩) Z5 ?_
      try simp only [Go.Act.put, List.setIfInBounds_toArray, List.set_cons_zero, List.set_cons_succ]
      refine wpL_take (i := 9) (v := (.agg cs5)) (some 72) rfl rfl (by kernel_rfl) (by kernel_rfl) (by kernel_rfl) (by kernel_rfl) (by kernel_rfl) (by decide) (fun _ _ _ h => h) (Or.inl ⟨by rfl, fun w' hS => (by go_simp)⟩) Z5 ?_
      try simp only [Go.Act.put, List.setIfInBounds_toArray, List.set_cons_zero, List.set_cons_succ]
      refine wpL_takeY (i := 10) (v := (.bool true)) (some 73) rfl rfl (by kernel_rfl) (by kernel_rfl) (by kernel_rfl) (by decide) (fun _ _ _ h => h) (Or.inl ⟨by rfl, fun w' hS => (by go_simp)⟩) (fun _ => Z5) ?_
      try simp only [Go.Act.put, List.setIfInBounds_toArray, List.set_cons_zero, List.set_cons_succ]
      refine wpL_take (i := 11) (v := (.pointer (some ⟨b2, 0, none⟩))) (some 5) rfl rfl (by kernel_rfl) (by kernel_rfl) (by kernel_rfl) (by kernel_rfl) (by kernel_rfl) (by decide) (fun _ _ _ h => h) (Or.inl ⟨by rfl, fun w' hS => (by go_simp)⟩) Z5 ?_
      try simp only [Go.Act.put, List.setIfInBounds_toArray, List.set_cons_zero, List.set_cons_succ]
      refine wpL_ready (rs := [12]) (by kernel_rfl) (by simp) (AllL.cons (o := { dst := none, op := Op.store 63 (Operand.tmp 10) (Operand.tmp 72), type := 0, pos := _, after := #[{ on := 9, ground := Ground.data }, { on := 11, ground := Ground.chain }, { on := 0, ground := Ground.phase }, { on := 1, ground := Ground.phase }, { on := 2, ground := Ground.phase }, { on := 3, ground := Ground.phase }, { on := 4, ground := Ground.phase }, { on := 5, ground := Ground.phase }, { on := 6, ground := Ground.phase }, { on := 7, ground := Ground.phase }, { on := 8, ground := Ground.phase }, { on := 9, ground := Ground.phase }, { on := 10, ground := Ground.textOnly Departure.lateStores }, { on := 11, ground := Ground.phase }], guard := none }) rfl (fun K' hK => ?_) AllL.nil)
      rw [if_pos (by rfl)]
      refine wp_storeT bigS (Operand.tmp 10) (Operand.tmp 72) rfl q cs cs5 63 rfl rfl Z5.2 HN.out iv5.siz.1 iv5.siz.2 (fun w7 h7 t7 s7 => ?_)
      refine hK.out _ _ (fun h => absurd h (by decide)) ?_
      clear hK
      try simp only [Go.Act.put, List.setIfInBounds_toArray, List.set_cons_zero, List.set_cons_succ]
      refine wpL_takeY (i := 13) (v := (.bool true)) (some 12) rfl rfl (by kernel_rfl) (by kernel_rfl) (by kernel_rfl) (by decide) (fun _ _ _ h => h) (Or.inl ⟨by rfl, fun w' hS => (by go_simp)⟩) (fun h => absurd h (by decide)) ?_
      try simp only [Go.Act.put, List.setIfInBounds_toArray, List.set_cons_zero, List.set_cons_succ]
      refine wpL_done (by kernel_rfl) ?_ _
      have IV7 := hid (iv5.box Z5.2 t7)
      have B7 := hid h7
      have TW7 : Hid (Touch [] w w7) := hid (Z5.1.trans t7 (fun k hk => Or.inr (by simp at hk; have := HQ.out; omega)))
      have HL7 : Hid (S5.log.length ≤ i + 1 ∧ S5.L = L) := hid ⟨Nat.le_trans hl5 (by have := HLG.out.1; omega), hL5.trans HLG.out.2⟩
      clear Z5 iv5 h7 t7 s7 hl5 hL5 S0 X0 X1 X2 X3 X4 X5 X6 X7 X8 X9 HU HNB HNQ HN HLG
      by_cases hlt2 : S5.at_ < S5.L.length
      · obtain ⟨lb, lo, cc, d, en, c0, c1, c2, cl⟩ := IV7.out.more hlt2
        have HNX := hid (next_ w7 IV7.out.q)
        rw [en] at HNX
        have HTK := hid (fun W (t : Touch [] w7 W) => token_ (IV7.out.q.touch t))
        have hz2 : (S5.at_ : Int) < (S5.L.length : Int) := by omega
        have HC := hid (show _ ∧ _ ∧ _ from ⟨c0, c1, c2⟩)
        have HCL := hid cl
        have HREL : Hid (∀ W, Touch [] w7 W → Lq w q L (i + 1) b2 W) := hid (fun W t => ⟨TW7.out.trans' t, pv5, lv5, cs5, pv6, lv6, S5, T5, IV7.out.touch t, t.keep B7.out (by simp), HL7.out.1, HL7.out.2, HQ.out⟩)
        clear en c0 c1 c2 cl hlt2 IV7 TW7 HL7
        generalize S5.at_ = n at *
        generalize S5.L.length = m at *
        generalize S5.tok = tk at *
        obtain ⟨d0', d1, d2, d3, d4⟩ := d
        dsimp only at *
        go_upto_region 14 with (go_at_call 19; refine HNX.out.mono ?_; rintro e w8 ⟨rfl, t8⟩; have T8 := hid t8; clear t8)
        obtain ⟨V0, hV0⟩ : ∃ V0, V0 = (w8.alloc (.cells #[.int .i64 d0', .int .u16 d1, .string d2, .int .i64 d3, .int .i64 d4] 47)).drew := ⟨_, rfl⟩
        obtain ⟨G, hG⟩ : ∃ G, G = w8.heap.size := ⟨_, rfl⟩
        have hv : Touch [] w7 V0 := by rw [hV0]; exact (T8.out.alloc _).drew
        have HV := hid hv
        have hgv : V0.heap[G]? = some (.cells #[.int .i64 d0', .int .u16 d1, .string d2, .int .i64 d3, .int .i64 d4] 47 (0, 0)) := by rw [hV0, hG]; exact heap_alloc_new w8 _
        have hqv := hv.keep B7.out (by simp)
        have G0 : ∀ w', w' = V0 → w'.cell? ⟨G, 0, none⟩ = some (.int .i64 d0') := fun w' h => by rw [h]; exact cell_at hgv rfl
        have G1 : ∀ w', w' = V0 → w'.cell? ⟨G, 1, none⟩ = some (.int .u16 d1) := fun w' h => by rw [h]; exact cell_at hgv rfl
        have G2 : ∀ w', w' = V0 → w'.cell? ⟨G, 2, none⟩ = some (.string d2) := fun w' h => by rw [h]; exact cell_at hgv rfl
        have G3 : ∀ w', w' = V0 → w'.cell? ⟨G, 3, none⟩ = some (.int .i64 d3) := fun w' h => by rw [h]; exact cell_at hgv rfl
        have G4 : ∀ w', w' = V0 → w'.cell? ⟨G, 4, none⟩ = some (.int .i64 d4) := fun w' h => by rw [h]; exact cell_at hgv rfl
        have Q0 : ∀ w', w' = V0 → w'.cell? ⟨q, 0, none⟩ = some (.slice (some ⟨lb, lo, none⟩) m cc) := fun w' h => by rw [h]; exact cell_at hqv HC.out.1
        have Q1 : ∀ w', w' = V0 → w'.cell? ⟨q, 1, none⟩ = some (.int .i64 (n : Nat)) := fun w' h => by rw [h]; exact cell_at hqv HC.out.2.1
        have Q2 : ∀ w', w' = V0 → w'.cell? ⟨q, 2, none⟩ = some (.int .i64 tk) := fun w' h => by rw [h]; exact cell_at hqv HC.out.2.2
        have R0 : ∀ w', w' = V0 → w'.cell? ⟨lb, lo + n * 5, none⟩ = some (.int .i64 d0') := fun w' h => by rw [h]; exact (HCL.out V0 HV.out).1
        have R1 : ∀ w', w' = V0 → w'.cell? ⟨lb, lo + n * 5 + 1, none⟩ = some (.int .u16 d1) := fun w' h => by rw [h]; exact (HCL.out V0 HV.out).2.1
        have R2 : ∀ w', w' = V0 → w'.cell? ⟨lb, lo + n * 5 + 2, none⟩ = some (.string d2) := fun w' h => by rw [h]; exact (HCL.out V0 HV.out).2.2.1
        have R3 : ∀ w', w' = V0 → w'.cell? ⟨lb, lo + n * 5 + 3, none⟩ = some (.int .i64 d3) := fun w' h => by rw [h]; exact (HCL.out V0 HV.out).2.2.2.1
        have R4 : ∀ w', w' = V0 → w'.cell? ⟨lb, lo + n * 5 + 4, none⟩ = some (.int .i64 d4) := fun w' h => by rw [h]; exact (HCL.out V0 HV.out).2.2.2.2
        clear hv hgv hqv
        have V0s : V0 = V0 := rfl
        refine wp_region_H (S := fun w' => w' = V0) (by kernel_rfl) ?_
        rw [← hG, ← hV0]
        clear hG hV0 T8
        refine wpH_take (i := 0) (v := (.bool true)) (some 82) rfl rfl (by kernel_rfl) (by kernel_rfl) (by kernel_rfl) (fun _ _ _ h => h) (Or.inl ⟨by rfl, fun w' hS => (by go_simp)⟩) V0s ?_
        try simp only [Go.Act.put, List.setIfInBounds_toArray, List.set_cons_zero, List.set_cons_succ]
        refine wpH_take (i := 1) (v := (.pointer (some ⟨q, 1, none⟩))) (some 83) rfl rfl (by kernel_rfl) (by kernel_rfl) (by kernel_rfl) (fun _ _ _ h => h) (Or.inl ⟨by rfl, fun w' hS => (by go_simp)⟩) V0s ?_
        try simp only [Go.Act.put, List.setIfInBounds_toArray, List.set_cons_zero, List.set_cons_succ]
        refine wpH_take (i := 2) (v := (.int .i64 (n : Nat))) (some 84) rfl rfl (by kernel_rfl) (by kernel_rfl) (by kernel_rfl) (fun _ _ _ h => h) (Or.inl ⟨by rfl, fun w' hS => (by have z0 := Q1 _ hS; go_simp)⟩) V0s ?_
        try simp only [Go.Act.put, List.setIfInBounds_toArray, List.set_cons_zero, List.set_cons_succ]
        refine wpH_take (i := 3) (v := (.pointer (some ⟨q, 0, none⟩))) (some 85) rfl rfl (by kernel_rfl) (by kernel_rfl) (by kernel_rfl) (fun _ _ _ h => h) (Or.inl ⟨by rfl, fun w' hS => (by go_simp)⟩) V0s ?_
        try simp only [Go.Act.put, List.setIfInBounds_toArray, List.set_cons_zero, List.set_cons_succ]
        refine wpH_take (i := 4) (v := (.slice (some ⟨lb, lo, none⟩) m cc)) (some 86) rfl rfl (by kernel_rfl) (by kernel_rfl) (by kernel_rfl) (fun _ _ _ h => h) (Or.inl ⟨by rfl, fun w' hS => (by have z0 := Q0 _ hS; go_simp)⟩) V0s ?_
        try simp only [Go.Act.put, List.setIfInBounds_toArray, List.set_cons_zero, List.set_cons_succ]
        refine wpH_take (i := 5) (v := (.int .i64 (m : Nat))) (some 87) rfl rfl (by kernel_rfl) (by kernel_rfl) (by kernel_rfl) (fun _ _ _ h => h) (Or.inl ⟨by rfl, fun w' hS => (by go_simp)⟩) V0s ?_
        try simp only [Go.Act.put, List.setIfInBounds_toArray, List.set_cons_zero, List.set_cons_succ]
        refine wpH_take (i := 6) (v := (.bool true)) (some 88) rfl rfl (by kernel_rfl) (by kernel_rfl) (by kernel_rfl) (fun _ _ _ h => h) (Or.inl ⟨by rfl, fun w' hS => (by go_simp)⟩) V0s ?_
        try simp only [Go.Act.put, List.setIfInBounds_toArray, List.set_cons_zero, List.set_cons_succ]
        refine wpH_take (i := 7) (v := (.bool false)) (some 89) rfl rfl (by kernel_rfl) (by kernel_rfl) (by kernel_rfl) (fun _ _ _ h => h) (Or.inl ⟨by rfl, fun w' hS => (by go_simp)⟩) V0s ?_
        try simp only [Go.Act.put, List.setIfInBounds_toArray, List.set_cons_zero, List.set_cons_succ]
        refine wpH_take (i := 8) (v := (.bool false)) (some 90) rfl rfl (by kernel_rfl) (by kernel_rfl) (by kernel_rfl) (fun _ _ _ h => h) (Or.inl ⟨by rfl, fun w' hS => (by go_simp)⟩) V0s ?_
        try simp only [Go.Act.put, List.setIfInBounds_toArray, List.set_cons_zero, List.set_cons_succ]
        refine wpH_take (i := 9) (v := (.bool true)) (some 91) rfl rfl (by kernel_rfl) (by kernel_rfl) (by kernel_rfl) (fun _ _ _ h => h) (Or.inl ⟨by rfl, fun w' hS => (by go_simp)⟩) V0s ?_
        try simp only [Go.Act.put, List.setIfInBounds_toArray, List.set_cons_zero, List.set_cons_succ]
        refine wpH_take (i := 10) (v := (.bool true)) (some 92) rfl rfl (by kernel_rfl) (by kernel_rfl) (by kernel_rfl) (fun _ _ _ h => h) (Or.inl ⟨by rfl, fun w' hS => (by go_simp)⟩) V0s ?_
        try simp only [Go.Act.put, List.setIfInBounds_toArray, List.set_cons_zero, List.set_cons_succ]
        refine wpH_take (i := 11) (v := (.agg #[.int .i64 d0', .int .u16 d1, .string d2, .int .i64 d3, .int .i64 d4])) (some 93) rfl rfl (by kernel_rfl) (by kernel_rfl) (by kernel_rfl) (fun _ _ _ h => h) (Or.inl ⟨by rfl, fun w' hS => (by have z0 := G0 _ hS; have z1 := G1 _ hS; have z2 := G2 _ hS; have z3 := G3 _ hS; have z4 := G4 _ hS; go_simp)⟩) V0s ?_
        try simp only [Go.Act.put, List.setIfInBounds_toArray, List.set_cons_zero, List.set_cons_succ]
        refine wpH_take (i := 12) (v := (.pointer (some ⟨q, 0, none⟩))) (some 94) rfl rfl (by kernel_rfl) (by kernel_rfl) (by kernel_rfl) (fun _ _ _ h => h) (Or.inl ⟨by rfl, fun w' hS => (by go_simp)⟩) V0s ?_
        try simp only [Go.Act.put, List.setIfInBounds_toArray, List.set_cons_zero, List.set_cons_succ]
        refine wpH_take (i := 13) (v := (.slice (some ⟨lb, lo, none⟩) m cc)) (some 95) rfl rfl (by kernel_rfl) (by kernel_rfl) (by kernel_rfl) (fun _ _ _ h => h) (Or.inl ⟨by rfl, fun w' hS => (by have z0 := Q0 _ hS; go_simp)⟩) V0s ?_
        try simp only [Go.Act.put, List.setIfInBounds_toArray, List.set_cons_zero, List.set_cons_succ]
        refine wpH_take (i := 14) (v := (.pointer (some ⟨q, 1, none⟩))) (some 96) rfl rfl (by kernel_rfl) (by kernel_rfl) (by kernel_rfl) (fun _ _ _ h => h) (Or.inl ⟨by rfl, fun w' hS => (by go_simp)⟩) V0s ?_
        try simp only [Go.Act.put, List.setIfInBounds_toArray, List.set_cons_zero, List.set_cons_succ]
        refine wpH_take (i := 15) (v := (.int .i64 (n : Nat))) (some 97) rfl rfl (by kernel_rfl) (by kernel_rfl) (by kernel_rfl) (fun _ _ _ h => h) (Or.inl ⟨by rfl, fun w' hS => (by have z0 := Q1 _ hS; go_simp)⟩) V0s ?_
        try simp only [Go.Act.put, List.setIfInBounds_toArray, List.set_cons_zero, List.set_cons_succ]
        refine wpH_take (i := 16) (v := (.pointer (some ⟨lb, lo + n * 5, none⟩))) (some 98) rfl rfl (by kernel_rfl) (by kernel_rfl) (by kernel_rfl) (fun _ _ _ h => h) (Or.inl ⟨by rfl, fun w' hS => (by go_simp)⟩) V0s ?_
        try simp only [Go.Act.put, List.setIfInBounds_toArray, List.set_cons_zero, List.set_cons_succ]
        refine wpH_take (i := 17) (v := (.agg #[.int .i64 d0', .int .u16 d1, .string d2, .int .i64 d3, .int .i64 d4])) (some 99) rfl rfl (by kernel_rfl) (by kernel_rfl) (by kernel_rfl) (fun _ _ _ h => h) (Or.inl ⟨by rfl, fun w' hS => (by have z0 := R0 _ hS; have z1 := R1 _ hS; have z2 := R2 _ hS; have z3 := R3 _ hS; have z4 := R4 _ hS; go_simp)⟩) V0s ?_
        try simp only [Go.Act.put, List.setIfInBounds_toArray, List.set_cons_zero, List.set_cons_succ]
        refine wpH_take (i := 18) (v := (.bool false)) (some 100) rfl rfl (by kernel_rfl) (by kernel_rfl) (by kernel_rfl) (fun _ _ _ h => h) (Or.inl ⟨by rfl, fun w' hS => (by go_simp)⟩) V0s ?_
        try simp only [Go.Act.put, List.setIfInBounds_toArray, List.set_cons_zero, List.set_cons_succ]
        refine wpH_take (i := 19) (v := (.bool false)) (some 101) rfl rfl (by kernel_rfl) (by kernel_rfl) (by kernel_rfl) (fun _ _ _ h => h) (Or.inl ⟨by rfl, fun w' hS => (by go_simp)⟩) V0s ?_
        try simp only [Go.Act.put, List.setIfInBounds_toArray, List.set_cons_zero, List.set_cons_succ]
        refine wpH_take (i := 20) (v := (.int .i64 (n : Nat))) (some 102) rfl rfl (by kernel_rfl) (by kernel_rfl) (by kernel_rfl) (fun _ _ _ h => h) (Or.inl ⟨by rfl, fun w' hS => (by go_simp)⟩) V0s ?_
        try simp only [Go.Act.put, List.setIfInBounds_toArray, List.set_cons_zero, List.set_cons_succ]
        refine wpH_take (i := 21) (v := (.pointer (some ⟨q, 1, none⟩))) (some 103) rfl rfl (by kernel_rfl) (by kernel_rfl) (by kernel_rfl) (fun _ _ _ h => h) (Or.inl ⟨by rfl, fun w' hS => (by go_simp)⟩) V0s ?_
        try simp only [Go.Act.put, List.setIfInBounds_toArray, List.set_cons_zero, List.set_cons_succ]
        refine wpH_take (i := 22) (v := (.int .i64 (n : Nat))) (some 104) rfl rfl (by kernel_rfl) (by kernel_rfl) (by kernel_rfl) (fun _ _ _ h => h) (Or.inl ⟨by rfl, fun w' hS => (by have z0 := Q1 _ hS; go_simp)⟩) V0s ?_
        try simp only [Go.Act.put, List.setIfInBounds_toArray, List.set_cons_zero, List.set_cons_succ]
        refine wpH_take (i := 23) (v := (.bool false)) (some 105) rfl rfl (by kernel_rfl) (by kernel_rfl) (by kernel_rfl) (fun _ _ _ h => h) (Or.inl ⟨by rfl, fun w' hS => (by go_simp)⟩) V0s ?_
        try simp only [Go.Act.put, List.setIfInBounds_toArray, List.set_cons_zero, List.set_cons_succ]
        refine wpH_take (i := 24) (v := (.bool false)) (some 106) rfl rfl (by kernel_rfl) (by kernel_rfl) (by kernel_rfl) (fun _ _ _ h => h) (Or.inl ⟨by rfl, fun w' hS => (by go_simp)⟩) V0s ?_
        try simp only [Go.Act.put, List.setIfInBounds_toArray, List.set_cons_zero, List.set_cons_succ]
        refine wpH_take (i := 25) (v := (.bool false)) (some 107) rfl rfl (by kernel_rfl) (by kernel_rfl) (by kernel_rfl) (fun _ _ _ h => h) (Or.inl ⟨by rfl, fun w' hS => (by go_simp)⟩) V0s ?_
        try simp only [Go.Act.put, List.setIfInBounds_toArray, List.set_cons_zero, List.set_cons_succ]
        refine wpH_take (i := 26) (v := (.bool false)) (some 108) rfl rfl (by kernel_rfl) (by kernel_rfl) (by kernel_rfl) (fun _ _ _ h => h) (Or.inl ⟨by rfl, fun w' hS => (by go_simp)⟩) V0s ?_
        try simp only [Go.Act.put, List.setIfInBounds_toArray, List.set_cons_zero, List.set_cons_succ]
        refine wpH_take (i := 27) (v := (.bool false)) (some 109) rfl rfl (by kernel_rfl) (by kernel_rfl) (by kernel_rfl) (fun _ _ _ h => h) (Or.inl ⟨by rfl, fun w' hS => (by go_simp)⟩) V0s ?_
        try simp only [Go.Act.put, List.setIfInBounds_toArray, List.set_cons_zero, List.set_cons_succ]
        refine wpH_take (i := 28) (v := (.bool true)) (some 110) rfl rfl (by kernel_rfl) (by kernel_rfl) (by kernel_rfl) (fun _ _ _ h => h) (Or.inl ⟨by rfl, fun w' hS => (by go_simp)⟩) V0s ?_
        try simp only [Go.Act.put, List.setIfInBounds_toArray, List.set_cons_zero, List.set_cons_succ]
        refine wpH_take (i := 29) (v := (.bool false)) (some 111) rfl rfl (by kernel_rfl) (by kernel_rfl) (by kernel_rfl) (fun _ _ _ h => h) (Or.inl ⟨by rfl, fun w' hS => (by go_simp)⟩) V0s ?_
        try simp only [Go.Act.put, List.setIfInBounds_toArray, List.set_cons_zero, List.set_cons_succ]
        refine wpH_take (i := 30) (v := (.bool false)) (some 112) rfl rfl (by kernel_rfl) (by kernel_rfl) (by kernel_rfl) (fun _ _ _ h => h) (Or.inl ⟨by rfl, fun w' hS => (by go_simp)⟩) V0s ?_
        try simp only [Go.Act.put, List.setIfInBounds_toArray, List.set_cons_zero, List.set_cons_succ]
        refine wpH_take (i := 31) (v := undef) (some 113) rfl rfl (by kernel_rfl) (by kernel_rfl) (by kernel_rfl) (fun _ _ _ h => h) (Or.inr ⟨by rfl, rfl⟩) V0s ?_
        try simp only [Go.Act.put, List.setIfInBounds_toArray, List.set_cons_zero, List.set_cons_succ]
        refine wpH_take (i := 32) (v := undef) (some 114) rfl rfl (by kernel_rfl) (by kernel_rfl) (by kernel_rfl) (fun _ _ _ h => h) (Or.inr ⟨by rfl, rfl⟩) V0s ?_
        try simp only [Go.Act.put, List.setIfInBounds_toArray, List.set_cons_zero, List.set_cons_succ]
        refine wpH_take (i := 33) (v := undef) (some 115) rfl rfl (by kernel_rfl) (by kernel_rfl) (by kernel_rfl) (fun _ _ _ h => h) (Or.inr ⟨by rfl, rfl⟩) V0s ?_
        try simp only [Go.Act.put, List.setIfInBounds_toArray, List.set_cons_zero, List.set_cons_succ]
        refine wpH_take (i := 34) (v := undef) (some 116) rfl rfl (by kernel_rfl) (by kernel_rfl) (by kernel_rfl) (fun _ _ _ h => h) (Or.inr ⟨by rfl, rfl⟩) V0s ?_
        try simp only [Go.Act.put, List.setIfInBounds_toArray, List.set_cons_zero, List.set_cons_succ]
        refine wpH_take (i := 35) (v := undef) (some 117) rfl rfl (by kernel_rfl) (by kernel_rfl) (by kernel_rfl) (fun _ _ _ h => h) (Or.inr ⟨by rfl, rfl⟩) V0s ?_
        try simp only [Go.Act.put, List.setIfInBounds_toArray, List.set_cons_zero, List.set_cons_succ]
        refine wpH_take (i := 36) (v := undef) (some 118) rfl rfl (by kernel_rfl) (by kernel_rfl) (by kernel_rfl) (fun _ _ _ h => h) (Or.inr ⟨by rfl, rfl⟩) V0s ?_
        try simp only [Go.Act.put, List.setIfInBounds_toArray, List.set_cons_zero, List.set_cons_succ]
        refine wpH_take (i := 37) (v := undef) (some 119) rfl rfl (by kernel_rfl) (by kernel_rfl) (by kernel_rfl) (fun _ _ _ h => h) (Or.inr ⟨by rfl, rfl⟩) V0s ?_
        try simp only [Go.Act.put, List.setIfInBounds_toArray, List.set_cons_zero, List.set_cons_succ]
        refine wpH_take (i := 38) (v := (.bool false)) (some 120) rfl rfl (by kernel_rfl) (by kernel_rfl) (by kernel_rfl) (fun _ _ _ h => h) (Or.inl ⟨by rfl, fun w' hS => (by go_simp)⟩) V0s ?_
        try simp only [Go.Act.put, List.setIfInBounds_toArray, List.set_cons_zero, List.set_cons_succ]
        refine wpH_take (i := 39) (v := (.bool false)) (some 121) rfl rfl (by kernel_rfl) (by kernel_rfl) (by kernel_rfl) (fun _ _ _ h => h) (Or.inl ⟨by rfl, fun w' hS => (by go_simp)⟩) V0s ?_
        try simp only [Go.Act.put, List.setIfInBounds_toArray, List.set_cons_zero, List.set_cons_succ]
        refine wpH_take (i := 40) (v := (.bool false)) (some 122) rfl rfl (by kernel_rfl) (by kernel_rfl) (by kernel_rfl) (fun _ _ _ h => h) (Or.inl ⟨by rfl, fun w' hS => (by go_simp)⟩) V0s ?_
        try simp only [Go.Act.put, List.setIfInBounds_toArray, List.set_cons_zero, List.set_cons_succ]
        refine wpH_take (i := 41) (v := (.pointer (some ⟨b2, 0, none⟩))) (some 123) rfl rfl (by kernel_rfl) (by kernel_rfl) (by kernel_rfl) (fun _ _ _ h => h) (Or.inl ⟨by rfl, fun w' hS => (by go_simp)⟩) V0s ?_
        try simp only [Go.Act.put, List.setIfInBounds_toArray, List.set_cons_zero, List.set_cons_succ]
        refine wpH_take (i := 43) (v := (.pointer (some ⟨q, 2, none⟩))) (some 125) rfl rfl (by kernel_rfl) (by kernel_rfl) (by kernel_rfl) (fun _ _ _ h => h) (Or.inl ⟨by rfl, fun w' hS => (by go_simp)⟩) V0s ?_
        try simp only [Go.Act.put, List.setIfInBounds_toArray, List.set_cons_zero, List.set_cons_succ]
        refine wpH_take (i := 44) (v := (.int .i64 tk)) (some 126) rfl rfl (by kernel_rfl) (by kernel_rfl) (by kernel_rfl) (fun _ _ _ h => h) (Or.inl ⟨by rfl, fun w' hS => (by have z0 := Q2 _ hS; go_simp)⟩) V0s ?_
        try simp only [Go.Act.put, List.setIfInBounds_toArray, List.set_cons_zero, List.set_cons_succ]
        refine wpH_call (i := 42) (o := { dst := some 124, op := Op.call { callee := Callee.value (Operand.func 20), args := #[Operand.tmp 123], argTypes := #[50] }, type := 3, pos := _, after := #[{ on := 41, ground := Ground.data }, { on := 40, ground := Ground.chain }, { on := 40, ground := Ground.guard }], guard := some (40, false) }) (by kernel_rfl) rfl (fun K' hK => ?_)
        rw [if_pos (by rfl)]
        go_simp
        refine (HTK.out _ HV.out).mono ?_
        rintro e w9 ⟨rfl, e9⟩
        rw [e9]
        clear e9 w9
        refine hK.out _ _ V0s ?_
        clear hK
        try simp only [Go.Act.put, List.setIfInBounds_toArray, List.set_cons_zero, List.set_cons_succ]
        refine wpH_take (i := 45) (v := (.bool false)) (some 127) rfl rfl (by kernel_rfl) (by kernel_rfl) (by kernel_rfl) (fun _ _ _ h => h) (Or.inl ⟨by rfl, fun w' hS => (by go_simp)⟩) V0s ?_
        try simp only [Go.Act.put, List.setIfInBounds_toArray, List.set_cons_zero, List.set_cons_succ]
        refine wpH_take (i := 46) (v := (.bool false)) (some 128) rfl rfl (by kernel_rfl) (by kernel_rfl) (by kernel_rfl) (fun _ _ _ h => h) (Or.inl ⟨by rfl, fun w' hS => (by go_simp)⟩) V0s ?_
        try simp only [Go.Act.put, List.setIfInBounds_toArray, List.set_cons_zero, List.set_cons_succ]
        refine wpAnyH_done (by kernel_rfl) ?_ _
        go_wp2_with fail
        go_roundw
        case rel => exact ⟨i + 1, b2, by go_num, by omega, rfl, hid (HREL.out _ HV.out)⟩
        case measure => simp [intOf]; omega
      · obtain ⟨la, cc, en, c0, c1, c2⟩ := IV7.out.done hlt2
        have HNX := hid (next_ w7 IV7.out.q)
        rw [en] at HNX
        have HTK := hid (fun W (t : Touch [] w7 W) => token_ (IV7.out.q.touch t))
        have hz2 : ¬ (S5.at_ : Int) < (S5.L.length : Int) := by omega
        have HC := hid (show _ ∧ _ ∧ _ from ⟨c0, c1, c2⟩)
        have HREL : Hid (∀ W, Touch [] w7 W → Lq w q L (i + 1) b2 W) := hid (fun W t => ⟨TW7.out.trans' t, pv5, lv5, cs5, pv6, lv6, S5, T5, IV7.out.touch t, t.keep B7.out (by simp), HL7.out.1, HL7.out.2, HQ.out⟩)
        clear en c0 c1 c2 hlt2 IV7 TW7 HL7
        generalize S5.at_ = n at *
        generalize S5.L.length = m at *
        generalize S5.tok = tk at *
        have hz3 : m ≤ n := by omega
        dsimp only [d0] at *
        go_upto_region 14 with (go_at_call 19; refine HNX.out.mono ?_; rintro e w8 ⟨rfl, t8⟩; have T8 := hid t8; clear t8)
        obtain ⟨V0, hV0⟩ : ∃ V0, V0 = (w8.alloc (.cells #[.int .i64 0, .int .u16 0, .string ⟨#[]⟩, .int .i64 0, .int .i64 0] 47)).drew := ⟨_, rfl⟩
        obtain ⟨G, hG⟩ : ∃ G, G = w8.heap.size := ⟨_, rfl⟩
        have hv : Touch [] w7 V0 := by rw [hV0]; exact (T8.out.alloc _).drew
        have HV := hid hv
        have hgv : V0.heap[G]? = some (.cells #[.int .i64 0, .int .u16 0, .string ⟨#[]⟩, .int .i64 0, .int .i64 0] 47 (0, 0)) := by rw [hV0, hG]; exact heap_alloc_new w8 _
        have hqv := hv.keep B7.out (by simp)
        have G0 : ∀ w', w' = V0 → w'.cell? ⟨G, 0, none⟩ = some (.int .i64 0) := fun w' h => by rw [h]; exact cell_at hgv rfl
        have G1 : ∀ w', w' = V0 → w'.cell? ⟨G, 1, none⟩ = some (.int .u16 0) := fun w' h => by rw [h]; exact cell_at hgv rfl
        have G2 : ∀ w', w' = V0 → w'.cell? ⟨G, 2, none⟩ = some (.string ⟨#[]⟩) := fun w' h => by rw [h]; exact cell_at hgv rfl
        have G3 : ∀ w', w' = V0 → w'.cell? ⟨G, 3, none⟩ = some (.int .i64 0) := fun w' h => by rw [h]; exact cell_at hgv rfl
        have G4 : ∀ w', w' = V0 → w'.cell? ⟨G, 4, none⟩ = some (.int .i64 0) := fun w' h => by rw [h]; exact cell_at hgv rfl
        have Q0 : ∀ w', w' = V0 → w'.cell? ⟨q, 0, none⟩ = some (.slice la m cc) := fun w' h => by rw [h]; exact cell_at hqv HC.out.1
        have Q1 : ∀ w', w' = V0 → w'.cell? ⟨q, 1, none⟩ = some (.int .i64 (n : Nat)) := fun w' h => by rw [h]; exact cell_at hqv HC.out.2.1
        have Q2 : ∀ w', w' = V0 → w'.cell? ⟨q, 2, none⟩ = some (.int .i64 tk) := fun w' h => by rw [h]; exact cell_at hqv HC.out.2.2
        clear hv hgv hqv
        have V0s : V0 = V0 := rfl
        refine wp_region_H (S := fun w' => w' = V0) (by kernel_rfl) ?_
        rw [← hG, ← hV0]
        clear hG hV0 T8
        refine wpH_take (i := 0) (v := (.bool false)) (some 82) rfl rfl (by kernel_rfl) (by kernel_rfl) (by kernel_rfl) (fun _ _ _ h => h) (Or.inl ⟨by rfl, fun w' hS => (by go_simp)⟩) V0s ?_
        try simp only [Go.Act.put, List.setIfInBounds_toArray, List.set_cons_zero, List.set_cons_succ]
        refine wpH_take (i := 1) (v := (.pointer (some ⟨q, 1, none⟩))) (some 83) rfl rfl (by kernel_rfl) (by kernel_rfl) (by kernel_rfl) (fun _ _ _ h => h) (Or.inl ⟨by rfl, fun w' hS => (by go_simp)⟩) V0s ?_
        try simp only [Go.Act.put, List.setIfInBounds_toArray, List.set_cons_zero, List.set_cons_succ]
        refine wpH_take (i := 2) (v := (.int .i64 (n : Nat))) (some 84) rfl rfl (by kernel_rfl) (by kernel_rfl) (by kernel_rfl) (fun _ _ _ h => h) (Or.inl ⟨by rfl, fun w' hS => (by have z0 := Q1 _ hS; go_simp)⟩) V0s ?_
        try simp only [Go.Act.put, List.setIfInBounds_toArray, List.set_cons_zero, List.set_cons_succ]
        refine wpH_take (i := 3) (v := (.pointer (some ⟨q, 0, none⟩))) (some 85) rfl rfl (by kernel_rfl) (by kernel_rfl) (by kernel_rfl) (fun _ _ _ h => h) (Or.inl ⟨by rfl, fun w' hS => (by go_simp)⟩) V0s ?_
        try simp only [Go.Act.put, List.setIfInBounds_toArray, List.set_cons_zero, List.set_cons_succ]
        refine wpH_take (i := 4) (v := (.slice la m cc)) (some 86) rfl rfl (by kernel_rfl) (by kernel_rfl) (by kernel_rfl) (fun _ _ _ h => h) (Or.inl ⟨by rfl, fun w' hS => (by have z0 := Q0 _ hS; go_simp)⟩) V0s ?_
        try simp only [Go.Act.put, List.setIfInBounds_toArray, List.set_cons_zero, List.set_cons_succ]
        refine wpH_take (i := 5) (v := (.int .i64 (m : Nat))) (some 87) rfl rfl (by kernel_rfl) (by kernel_rfl) (by kernel_rfl) (fun _ _ _ h => h) (Or.inl ⟨by rfl, fun w' hS => (by go_simp)⟩) V0s ?_
        try simp only [Go.Act.put, List.setIfInBounds_toArray, List.set_cons_zero, List.set_cons_succ]
        refine wpH_take (i := 6) (v := (.bool false)) (some 88) rfl rfl (by kernel_rfl) (by kernel_rfl) (by kernel_rfl) (fun _ _ _ h => h) (Or.inl ⟨by rfl, fun w' hS => (by go_simp)⟩) V0s ?_
        try simp only [Go.Act.put, List.setIfInBounds_toArray, List.set_cons_zero, List.set_cons_succ]
        refine wpH_take (i := 7) (v := (.bool false)) (some 89) rfl rfl (by kernel_rfl) (by kernel_rfl) (by kernel_rfl) (fun _ _ _ h => h) (Or.inl ⟨by rfl, fun w' hS => (by go_simp)⟩) V0s ?_
        try simp only [Go.Act.put, List.setIfInBounds_toArray, List.set_cons_zero, List.set_cons_succ]
        refine wpH_take (i := 8) (v := (.bool false)) (some 90) rfl rfl (by kernel_rfl) (by kernel_rfl) (by kernel_rfl) (fun _ _ _ h => h) (Or.inl ⟨by rfl, fun w' hS => (by go_simp)⟩) V0s ?_
        try simp only [Go.Act.put, List.setIfInBounds_toArray, List.set_cons_zero, List.set_cons_succ]
        refine wpH_take (i := 9) (v := (.bool false)) (some 91) rfl rfl (by kernel_rfl) (by kernel_rfl) (by kernel_rfl) (fun _ _ _ h => h) (Or.inl ⟨by rfl, fun w' hS => (by go_simp)⟩) V0s ?_
        try simp only [Go.Act.put, List.setIfInBounds_toArray, List.set_cons_zero, List.set_cons_succ]
        refine wpH_take (i := 10) (v := (.bool false)) (some 92) rfl rfl (by kernel_rfl) (by kernel_rfl) (by kernel_rfl) (fun _ _ _ h => h) (Or.inl ⟨by rfl, fun w' hS => (by go_simp)⟩) V0s ?_
        try simp only [Go.Act.put, List.setIfInBounds_toArray, List.set_cons_zero, List.set_cons_succ]
        refine wpH_take (i := 11) (v := undef) (some 93) rfl rfl (by kernel_rfl) (by kernel_rfl) (by kernel_rfl) (fun _ _ _ h => h) (Or.inr ⟨by rfl, rfl⟩) V0s ?_
        try simp only [Go.Act.put, List.setIfInBounds_toArray, List.set_cons_zero, List.set_cons_succ]
        refine wpH_take (i := 12) (v := undef) (some 94) rfl rfl (by kernel_rfl) (by kernel_rfl) (by kernel_rfl) (fun _ _ _ h => h) (Or.inr ⟨by rfl, rfl⟩) V0s ?_
        try simp only [Go.Act.put, List.setIfInBounds_toArray, List.set_cons_zero, List.set_cons_succ]
        refine wpH_take (i := 13) (v := undef) (some 95) rfl rfl (by kernel_rfl) (by kernel_rfl) (by kernel_rfl) (fun _ _ _ h => h) (Or.inr ⟨by rfl, rfl⟩) V0s ?_
        try simp only [Go.Act.put, List.setIfInBounds_toArray, List.set_cons_zero, List.set_cons_succ]
        refine wpH_take (i := 14) (v := undef) (some 96) rfl rfl (by kernel_rfl) (by kernel_rfl) (by kernel_rfl) (fun _ _ _ h => h) (Or.inr ⟨by rfl, rfl⟩) V0s ?_
        try simp only [Go.Act.put, List.setIfInBounds_toArray, List.set_cons_zero, List.set_cons_succ]
        refine wpH_take (i := 15) (v := undef) (some 97) rfl rfl (by kernel_rfl) (by kernel_rfl) (by kernel_rfl) (fun _ _ _ h => h) (Or.inr ⟨by rfl, rfl⟩) V0s ?_
        try simp only [Go.Act.put, List.setIfInBounds_toArray, List.set_cons_zero, List.set_cons_succ]
        refine wpH_take (i := 16) (v := undef) (some 98) rfl rfl (by kernel_rfl) (by kernel_rfl) (by kernel_rfl) (fun _ _ _ h => h) (Or.inr ⟨by rfl, rfl⟩) V0s ?_
        try simp only [Go.Act.put, List.setIfInBounds_toArray, List.set_cons_zero, List.set_cons_succ]
        refine wpH_take (i := 17) (v := undef) (some 99) rfl rfl (by kernel_rfl) (by kernel_rfl) (by kernel_rfl) (fun _ _ _ h => h) (Or.inr ⟨by rfl, rfl⟩) V0s ?_
        try simp only [Go.Act.put, List.setIfInBounds_toArray, List.set_cons_zero, List.set_cons_succ]
        refine wpH_take (i := 18) (v := undef) (some 100) rfl rfl (by kernel_rfl) (by kernel_rfl) (by kernel_rfl) (fun _ _ _ h => h) (Or.inr ⟨by rfl, rfl⟩) V0s ?_
        try simp only [Go.Act.put, List.setIfInBounds_toArray, List.set_cons_zero, List.set_cons_succ]
        refine wpH_take (i := 19) (v := undef) (some 101) rfl rfl (by kernel_rfl) (by kernel_rfl) (by kernel_rfl) (fun _ _ _ h => h) (Or.inr ⟨by rfl, rfl⟩) V0s ?_
        try simp only [Go.Act.put, List.setIfInBounds_toArray, List.set_cons_zero, List.set_cons_succ]
        refine wpH_take (i := 20) (v := undef) (some 102) rfl rfl (by kernel_rfl) (by kernel_rfl) (by kernel_rfl) (fun _ _ _ h => h) (Or.inr ⟨by rfl, rfl⟩) V0s ?_
        try simp only [Go.Act.put, List.setIfInBounds_toArray, List.set_cons_zero, List.set_cons_succ]
        refine wpH_take (i := 21) (v := undef) (some 103) rfl rfl (by kernel_rfl) (by kernel_rfl) (by kernel_rfl) (fun _ _ _ h => h) (Or.inr ⟨by rfl, rfl⟩) V0s ?_
        try simp only [Go.Act.put, List.setIfInBounds_toArray, List.set_cons_zero, List.set_cons_succ]
        refine wpH_take (i := 22) (v := undef) (some 104) rfl rfl (by kernel_rfl) (by kernel_rfl) (by kernel_rfl) (fun _ _ _ h => h) (Or.inr ⟨by rfl, rfl⟩) V0s ?_
        try simp only [Go.Act.put, List.setIfInBounds_toArray, List.set_cons_zero, List.set_cons_succ]
        refine wpH_take (i := 23) (v := undef) (some 105) rfl rfl (by kernel_rfl) (by kernel_rfl) (by kernel_rfl) (fun _ _ _ h => h) (Or.inr ⟨by rfl, rfl⟩) V0s ?_
        try simp only [Go.Act.put, List.setIfInBounds_toArray, List.set_cons_zero, List.set_cons_succ]
        refine wpH_take (i := 24) (v := undef) (some 106) rfl rfl (by kernel_rfl) (by kernel_rfl) (by kernel_rfl) (fun _ _ _ h => h) (Or.inr ⟨by rfl, rfl⟩) V0s ?_
        try simp only [Go.Act.put, List.setIfInBounds_toArray, List.set_cons_zero, List.set_cons_succ]
        refine wpH_take (i := 25) (v := (.bool false)) (some 107) rfl rfl (by kernel_rfl) (by kernel_rfl) (by kernel_rfl) (fun _ _ _ h => h) (Or.inl ⟨by rfl, fun w' hS => (by go_simp)⟩) V0s ?_
        try simp only [Go.Act.put, List.setIfInBounds_toArray, List.set_cons_zero, List.set_cons_succ]
        refine wpH_take (i := 26) (v := (.bool false)) (some 108) rfl rfl (by kernel_rfl) (by kernel_rfl) (by kernel_rfl) (fun _ _ _ h => h) (Or.inl ⟨by rfl, fun w' hS => (by go_simp)⟩) V0s ?_
        try simp only [Go.Act.put, List.setIfInBounds_toArray, List.set_cons_zero, List.set_cons_succ]
        refine wpH_take (i := 27) (v := (.bool false)) (some 109) rfl rfl (by kernel_rfl) (by kernel_rfl) (by kernel_rfl) (fun _ _ _ h => h) (Or.inl ⟨by rfl, fun w' hS => (by go_simp)⟩) V0s ?_
        try simp only [Go.Act.put, List.setIfInBounds_toArray, List.set_cons_zero, List.set_cons_succ]
        refine wpH_take (i := 28) (v := (.bool false)) (some 110) rfl rfl (by kernel_rfl) (by kernel_rfl) (by kernel_rfl) (fun _ _ _ h => h) (Or.inl ⟨by rfl, fun w' hS => (by go_simp)⟩) V0s ?_
        try simp only [Go.Act.put, List.setIfInBounds_toArray, List.set_cons_zero, List.set_cons_succ]
        refine wpH_take (i := 29) (v := (.bool true)) (some 111) rfl rfl (by kernel_rfl) (by kernel_rfl) (by kernel_rfl) (fun _ _ _ h => h) (Or.inl ⟨by rfl, fun w' hS => (by go_simp)⟩) V0s ?_
        try simp only [Go.Act.put, List.setIfInBounds_toArray, List.set_cons_zero, List.set_cons_succ]
        refine wpH_take (i := 30) (v := (.bool true)) (some 112) rfl rfl (by kernel_rfl) (by kernel_rfl) (by kernel_rfl) (fun _ _ _ h => h) (Or.inl ⟨by rfl, fun w' hS => (by go_simp)⟩) V0s ?_
        try simp only [Go.Act.put, List.setIfInBounds_toArray, List.set_cons_zero, List.set_cons_succ]
        refine wpH_take (i := 31) (v := (.agg #[.int .i64 0, .int .u16 0, .string ⟨#[]⟩, .int .i64 0, .int .i64 0])) (some 113) rfl rfl (by kernel_rfl) (by kernel_rfl) (by kernel_rfl) (fun _ _ _ h => h) (Or.inl ⟨by rfl, fun w' hS => (by have z0 := G0 _ hS; have z1 := G1 _ hS; have z2 := G2 _ hS; have z3 := G3 _ hS; have z4 := G4 _ hS; go_simp)⟩) V0s ?_
        try simp only [Go.Act.put, List.setIfInBounds_toArray, List.set_cons_zero, List.set_cons_succ]
        refine wpH_take (i := 32) (v := (.agg #[.int .i64 0, .int .u16 0, .string ⟨#[]⟩, .int .i64 0, .int .i64 0])) (some 114) rfl rfl (by kernel_rfl) (by kernel_rfl) (by kernel_rfl) (fun _ _ _ h => h) (Or.inl ⟨by rfl, fun w' hS => (by go_simp)⟩) V0s ?_
        try simp only [Go.Act.put, List.setIfInBounds_toArray, List.set_cons_zero, List.set_cons_succ]
        refine wpH_take (i := 33) (v := (.bool false)) (some 115) rfl rfl (by kernel_rfl) (by kernel_rfl) (by kernel_rfl) (fun _ _ _ h => h) (Or.inl ⟨by rfl, fun w' hS => (by go_simp)⟩) V0s ?_
        try simp only [Go.Act.put, List.setIfInBounds_toArray, List.set_cons_zero, List.set_cons_succ]
        refine wpH_take (i := 34) (v := (.bool false)) (some 116) rfl rfl (by kernel_rfl) (by kernel_rfl) (by kernel_rfl) (fun _ _ _ h => h) (Or.inl ⟨by rfl, fun w' hS => (by go_simp)⟩) V0s ?_
        try simp only [Go.Act.put, List.setIfInBounds_toArray, List.set_cons_zero, List.set_cons_succ]
        refine wpH_take (i := 35) (v := (.int .i64 0)) (some 117) rfl rfl (by kernel_rfl) (by kernel_rfl) (by kernel_rfl) (fun _ _ _ h => h) (Or.inl ⟨by rfl, fun w' hS => (by go_simp)⟩) V0s ?_
        try simp only [Go.Act.put, List.setIfInBounds_toArray, List.set_cons_zero, List.set_cons_succ]
        refine wpH_take (i := 36) (v := (.bool false)) (some 118) rfl rfl (by kernel_rfl) (by kernel_rfl) (by kernel_rfl) (fun _ _ _ h => h) (Or.inl ⟨by rfl, fun w' hS => (by go_simp)⟩) V0s ?_
        try simp only [Go.Act.put, List.setIfInBounds_toArray, List.set_cons_zero, List.set_cons_succ]
        refine wpH_take (i := 37) (v := (.bool false)) (some 119) rfl rfl (by kernel_rfl) (by kernel_rfl) (by kernel_rfl) (fun _ _ _ h => h) (Or.inl ⟨by rfl, fun w' hS => (by go_simp)⟩) V0s ?_
        try simp only [Go.Act.put, List.setIfInBounds_toArray, List.set_cons_zero, List.set_cons_succ]
        refine wpH_take (i := 38) (v := (.bool false)) (some 120) rfl rfl (by kernel_rfl) (by kernel_rfl) (by kernel_rfl) (fun _ _ _ h => h) (Or.inl ⟨by rfl, fun w' hS => (by go_simp)⟩) V0s ?_
        try simp only [Go.Act.put, List.setIfInBounds_toArray, List.set_cons_zero, List.set_cons_succ]
        refine wpH_take (i := 39) (v := (.bool false)) (some 121) rfl rfl (by kernel_rfl) (by kernel_rfl) (by kernel_rfl) (fun _ _ _ h => h) (Or.inl ⟨by rfl, fun w' hS => (by go_simp)⟩) V0s ?_
        try simp only [Go.Act.put, List.setIfInBounds_toArray, List.set_cons_zero, List.set_cons_succ]
        refine wpH_take (i := 40) (v := (.bool false)) (some 122) rfl rfl (by kernel_rfl) (by kernel_rfl) (by kernel_rfl) (fun _ _ _ h => h) (Or.inl ⟨by rfl, fun w' hS => (by go_simp)⟩) V0s ?_
        try simp only [Go.Act.put, List.setIfInBounds_toArray, List.set_cons_zero, List.set_cons_succ]
        refine wpH_take (i := 41) (v := (.pointer (some ⟨b2, 0, none⟩))) (some 123) rfl rfl (by kernel_rfl) (by kernel_rfl) (by kernel_rfl) (fun _ _ _ h => h) (Or.inl ⟨by rfl, fun w' hS => (by go_simp)⟩) V0s ?_
        try simp only [Go.Act.put, List.setIfInBounds_toArray, List.set_cons_zero, List.set_cons_succ]
        refine wpH_take (i := 43) (v := (.pointer (some ⟨q, 2, none⟩))) (some 125) rfl rfl (by kernel_rfl) (by kernel_rfl) (by kernel_rfl) (fun _ _ _ h => h) (Or.inl ⟨by rfl, fun w' hS => (by go_simp)⟩) V0s ?_
        try simp only [Go.Act.put, List.setIfInBounds_toArray, List.set_cons_zero, List.set_cons_succ]
        refine wpH_take (i := 44) (v := (.int .i64 tk)) (some 126) rfl rfl (by kernel_rfl) (by kernel_rfl) (by kernel_rfl) (fun _ _ _ h => h) (Or.inl ⟨by rfl, fun w' hS => (by have z0 := Q2 _ hS; go_simp)⟩) V0s ?_
        try simp only [Go.Act.put, List.setIfInBounds_toArray, List.set_cons_zero, List.set_cons_succ]
        refine wpH_call (i := 42) (o := { dst := some 124, op := Op.call { callee := Callee.value (Operand.func 20), args := #[Operand.tmp 123], argTypes := #[50] }, type := 3, pos := _, after := #[{ on := 41, ground := Ground.data }, { on := 40, ground := Ground.chain }, { on := 40, ground := Ground.guard }], guard := some (40, false) }) (by kernel_rfl) rfl (fun K' hK => ?_)
        rw [if_pos (by rfl)]
        go_simp
        refine (HTK.out _ HV.out).mono ?_
        rintro e w9 ⟨rfl, e9⟩
        rw [e9]
        clear e9 w9
        refine hK.out _ _ V0s ?_
        clear hK
        try simp only [Go.Act.put, List.setIfInBounds_toArray, List.set_cons_zero, List.set_cons_succ]
        refine wpH_take (i := 45) (v := (.bool false)) (some 127) rfl rfl (by kernel_rfl) (by kernel_rfl) (by kernel_rfl) (fun _ _ _ h => h) (Or.inl ⟨by rfl, fun w' hS => (by go_simp)⟩) V0s ?_
        try simp only [Go.Act.put, List.setIfInBounds_toArray, List.set_cons_zero, List.set_cons_succ]
        refine wpH_take (i := 46) (v := (.bool false)) (some 128) rfl rfl (by kernel_rfl) (by kernel_rfl) (by kernel_rfl) (fun _ _ _ h => h) (Or.inl ⟨by rfl, fun w' hS => (by go_simp)⟩) V0s ?_
        try simp only [Go.Act.put, List.setIfInBounds_toArray, List.set_cons_zero, List.set_cons_succ]
        refine wpAnyH_done (by kernel_rfl) ?_ _
        go_wp2_with fail
        go_roundw
        case rel => exact ⟨i + 1, b2, by go_num, by omega, rfl, hid (HREL.out _ HV.out)⟩
        case measure => simp [intOf]; omega
    · have hz : ¬ (i : Int) < (X.length : Int) := by omega
      obtain ⟨tw, pv, lv, cs, pv2, lv2, S, T, iv, hq, hlg, hL, hwq⟩ := HG.out
      have HLO := hid (log_ iv.q (by have := HXL.out; omega))
      obtain ⟨ag, cg, eg⟩ := own_form iv.g2
      subst eg
      have hc3 : Hid (cs[3]? = some (.slice ag S.log.length cg)) := hid (by have z := iv.s.c3; rw [iv.r.log] at z; exact z)
      have HSG : Hid (∀ W, Touch [] wo W → Sg W ag S.log) := hid (fun W t => by have z := (iv.touch t).g2; rw [iv.r.log] at z; exact sg_own z)
      have HTW := hid tw
      have HQW := hid hq
      have y3 := cell_at hq hc3.out
      have HLN : Hid (S.log.length ≤ 1759218604390) := hid (by have := HXL.out; omega)
      clear HG tw iv hq hlg hL hwq HX HXL
      generalize S.log = lg at *
      go_wp2_with (go_at_call 21; refine HLO.out.mono ?_; rintro e w6 ⟨a6, c6, rfl, o6, t6⟩; have T6 := hid t6; have S6 := hid (sg_own o6); have y3' := cell_at (t6.keep HQW.out (by simp)) hc3.out; clear t6 o6 y3)
      clear y3'
      go_loopw [17] (fun j wr => ∃ j' : Nat, j = .int .i64 j' ∧ j' ≤ lg.length ∧ Hid (Touch [] w6 wr)) (fun j _ => lg.length - (intOf j).toNat)
      case atStart => exact ⟨0, rfl, Nat.zero_le _, hid (Touch.refl _ _)⟩
      case round =>
        obtain ⟨j, rfl, hj, HJ⟩ := hrel
        obtain ⟨wo2, hwo2⟩ : ∃ wo2, wo2 = wr := ⟨_, rfl⟩
        rw [← hwo2] at HJ ⊢
        clear hwo2 wr
        have hgl := HLN.out
        by_cases hjl : j < lg.length
        · have hz3 : (j : Int) < (lg.length : Int) := by omega
          obtain ⟨gb, go', rfl, e0, e1, e2, e3, e4, e5, e6⟩ := HSG.out _ (T6.out.trans' HJ.out) j hjl
          obtain ⟨fb, fo, rfl, f0, f1, f2, f3, f4, f5, f6⟩ := (S6.out.touch HJ.out) j hjl
          have y3 := cell_at ((T6.out.trans' HJ.out).keep HQW.out (by simp)) hc3.out
          generalize lg[j] = gg at *
          obtain ⟨g0', g1, g2, g3, g4, g5, g6⟩ := gg
          dsimp only at *
          go_upto_region 24 with fail
          go_quiet (fail)
          go_wp2_with fail
          go_roundw
          case rel => exact ⟨j + 1, by go_num, by omega, hid ⟨HJ.out.1, HJ.out.2, HJ.out.3, HJ.out.4, HJ.out.5⟩⟩
          case measure => simp [intOf]; omega
        · have hz3 : ¬ (j : Int) < (lg.length : Int) := by omega
          go_wp2_with fail
          go_ret
          exact ⟨rfl, (HTW.out.trans' T6.out).trans' HJ.out⟩
theorem plays_ (L : List Dz) (a : Option Addr) (c : Nat) (X : List AcA) (a2 : Option Addr) (c2 : Nat) (w : World) (hk : Kd w) (hs : Sl w a L) (hw : Oks L) (hl : L.length ≤ 2932031007317) (hx : SlX w a2 X) (hxl : X.length ≤ 1759218604390) :
    Calls Tryd.prog 5 #[.slice a L.length c, .slice a2 X.length c2] w fun e w' => e = .returned (.bool true) ∧ Touch [] w w' := by
  by_cases hg : Good L
  · exact plays_good L a c X a2 c2 w hk hs hw hx hxl hg
  · exact plays_no L a c X a2 c2 w hk hs hw hl hg
end Go.Proofs.YthakboiecdjgnaaDoor.Ci
