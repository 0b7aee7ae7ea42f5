/- The law TraceAdds, walked; the condition is that the table holds what the start lays. -/
import Derived.Test.YtlhieohjabbgdaaGreatDoorREwc
namespace Go.Proofs.YtlhieohjabbgdaaGreatDoorR.Tr
open Go.RowKit Go.Sort Go.Shelf Go.Maps Go.ChangeMaps
set_option linter.unusedVariables false
set_option linter.unusedSimpArgs false
/-- what the law TraceAdds has in memory behind its building -/
structure Ab (w0 : World) (B b : Nat) (v u : Value) (kw ke : Nat) (L : List Ez) (K : Int) (w' : World) : Prop where
  t : Touch [] w0 w'
  q : Tq w' B b v L
  wn : w'.heap[kw]? = some (.cells #[u] 48 (0, 0))
  en : w'.heap[ke]? = some (.cells #[.int .i64 K] 3 (0, 0))
  ou : w'.ownsRow B 30 13 u L.length (evs L)
theorem Ab.touch {w0 w' w2 : World} {B b : Nat} {v u : Value} {kw ke : Nat} {L : List Ez} {K : Int} (h : Ab w0 B b v u kw ke L K w') (t : Touch [] w' w2) : Ab w0 B b v u kw ke L K w2 :=
  ⟨h.t.trans' t, h.q.touch0 t, t.keep h.wn (by simp), t.keep h.en (by simp), own_touch h.ou t (by simp)⟩
/-- between two rounds of the first loop -/
structure Al (w3 : World) (u : Value) (N j : Nat) (L : List Ez) (w' : World) : Prop where
  t : Touch [] w3 w'
  m : ∃ M : List Ez, M.length = N ∧ (∀ k, j ≤ k → M[k]? = L[k]?) ∧ w'.ownsRow w3.heap.size 30 13 u N (evs M)
theorem Al.bump {w3 w' X : World} {g2 c2 N j : Nat} {L : List Ez} {e : Ez} (h : Al w3 (.slice (some ⟨g2, 0, none⟩) N c2) N j L w') (t : Touch [] w' X) (he : L[j]? = some e) (k : Int) : Al w3 (.slice (some ⟨g2, 0, none⟩) N c2) N (j + 1) L (X.setCell ⟨g2, j * 13 + 4, none⟩ (.int .i64 k)) := by
  obtain ⟨M, hM, hk, ho⟩ := h.m
  have ho' := own_touch ho t (by simp)
  have hb : w3.heap.size ≤ g2 := (ho.lt g2 rfl).1
  refine ⟨(h.t.trans' t).setCell (Or.inr hb) _, M.set j { e with ru := k }, by simp [hM], fun i hi => ?_, ?_⟩
  · rw [List.getElem?_set_ne (by omega)]; exact hk i (by omega)
  · have h1 := own_set ho' (j * 13 + 4) (.int .i64 k)
    unfold evs at h1
    rw [flat_set cells_len M ((hk j (Nat.le_refl _)).trans he) (j := 4) (by decide) (y := { e with ru := k }) rfl] at h1
    exact h1
set_option maxHeartbeats 8000000 in
set_option maxRecDepth 20000 in
theorem adds_ (w : World) (a0 : Option Addr) (m : Nat) (l : List Ez) (K : Int) (hx : ∀ i e, l[i]? = some e → ∃ g off, a0 = some ⟨g, off, none⟩ ∧ Rc w g (off + i * 13) e) (hok : ∀ e ∈ l, e.nm.size ≤ maxLen) (hl : l.length ≤ 2000000000000) (hk : Tk w) :
    Calls Tryz.prog 4 #[.slice a0 l.length m, .int .i64 K] w fun r w' => r = .returned (.bool true) ∧ Touch [] w w' := by
  obtain ⟨W0, hW0⟩ : ∃ W0, W0 = w.alloc (.cells #[.int .i64 K] 3) := ⟨_, rfl⟩
  have tW : Touch [] w W0 := by rw [hW0]; exact (Touch.refl [] w).alloc _
  obtain ⟨ke, hke⟩ : ∃ ke, ke = w.heap.size := ⟨_, rfl⟩
  have hbx : W0.heap[ke]? = some (.cells #[.int .i64 K] 3 (0, 0)) := by rw [hW0, hke]; exact heap_alloc_new w _
  have HBu := hid (built_ W0 a0 m l (fun i e he => by obtain ⟨g, off, e1, h⟩ := hx i e he; exact ⟨g, off, e1, h.touch tW⟩) hok hl (hk.touch tW))
  have HTK := hid hk
  have HtW := hid tW
  have Hbx := hid hbx
  have Hke := hid hke
  generalize l.length = ll at *
  clear hx hok hl hk tW hbx
  go_enter Tryz.func4, Tryz.ntmps4
  go_wp2_with fail
  rw [← hW0, ← hke]
  clear hW0 hke
  refine Calls.mono HBu.out ?_
  rintro r w1 ⟨b, v, a, n, c, z, rfl, hn, hB⟩
  clear HBu
  obtain ⟨L, hL⟩ : ∃ L, L = bl l := ⟨_, rfl⟩
  rw [← hL] at hn hB
  clear hL
  obtain ⟨B, hBB⟩ : ∃ B, B = W0.heap.size := ⟨_, rfl⟩
  have HA1 : Hid (Ab w B b v (.slice a n c) w1.heap.size ke L K (w1.alloc (.cells #[.slice a n c] 48))) := by
    have t2 : Touch [] w1 (w1.alloc (.cells #[.slice a n c] 48)) := (Touch.refl [] w1).alloc _
    rw [hBB]
    exact ⟨(HtW.out.trans' hB.t).trans' t2, hB.q.touch0 t2, heap_alloc_new w1 _, (hB.t.trans' t2).keep Hbx.out (by simp), own_touch hB.ou t2 (by simp)⟩
  have HBB := hid (hBB ▸ hB.hb)
  have hle := hB.q.le
  have HnL := hid hn
  rw [hn] at hle
  clear hB hBB HtW Hbx hn
  unfold PT
  go_upto_region 2 with fail
  obtain ⟨kw, hkw⟩ : ∃ kw, kw = w1.heap.size := ⟨_, rfl⟩
  rw [← hkw] at HA1 ⊢
  clear hkw
  have S00 : Ab w B b v (.slice a n c) kw ke L K (w1.alloc (.cells #[.slice a n c] 48)).drew := HA1.out.touch ((Touch.refl [] _).drew)
  obtain ⟨NL, hNL⟩ : ∃ NL : Int, (n : Int) = NL := ⟨_, rfl⟩
  have HNL := hid hNL
  have hNb : NL ≤ 1048576 := by omega
  have hN0 : 0 ≤ NL := by omega
  have HAw : Hid (∀ w', Ab w B b v (.slice a n c) kw ke L K w' → Calls Tryz.prog 8 #[] w' fun r w'' => r = .returned (.bool true) ∧ Touch [] w' w'') := hid (fun w' h => awake_ w' (HTK.out.touch h.t))
  have HLen : Hid (∀ w', Ab w B b v (.slice a n c) kw ke L K w' → Calls Tryz.prog 16 #[PT b] w' fun r w'' => r = .returned (.int .i64 NL) ∧ w'' = w') := hid (fun w' h => by
    have := len_ h.q
    rw [HnL.out, HNL.out] at this
    exact this)
  have CW : ∀ w' : World, (Ab w B b v (.slice a n c) kw ke L K w') → w'.cell? ⟨kw, 0, none⟩ = some (.slice a n c) := fun w' h => cell_at h.wn rfl
  unfold PT at HLen
  clear HA1 hle
  refine wp_region_H (S := fun w' => Ab w B b v (.slice a n c) kw ke L K w') (by kernel_rfl) ?_
  generalize (w1.alloc (.cells #[.slice a n c] 48)).drew = U at *
  have S0 := S00
  clear S00
  refine wpH_call (i := 0) (o := { dst := some 26, op := Op.call { callee := Callee.value (Operand.func 8), args := #[], argTypes := #[] }, type := 4, pos := _, after := #[], guard := none }) (by kernel_rfl) rfl (fun K' hK => ?_)
  rw [if_pos (by rfl)]
  go_simp
  refine (HAw.out _ S0).mono ?_
  rintro r w5 ⟨rfl, t5⟩
  have S5 := S0.touch t5
  clear t5
  refine hK.out _ _ S5 ?_
  clear hK
  try simp only [Go.Act.put, List.setIfInBounds_toArray, List.set_cons_zero, List.set_cons_succ]
  refine wpH_take (i := 1) (v := (.bool false)) (some 27) rfl rfl (by kernel_rfl) (by kernel_rfl) (by kernel_rfl) (fun _ _ _ h => h) (Or.inl ⟨by rfl, fun w' hS => (by go_simp)⟩) S5 ?_
  try simp only [Go.Act.put, List.setIfInBounds_toArray, List.set_cons_zero, List.set_cons_succ]
  refine wpH_take (i := 2) (v := (.bool false)) (some 28) rfl rfl (by kernel_rfl) (by kernel_rfl) (by kernel_rfl) (fun _ _ _ h => h) (Or.inl ⟨by rfl, fun w' hS => (by go_simp)⟩) S5 ?_
  try simp only [Go.Act.put, List.setIfInBounds_toArray, List.set_cons_zero, List.set_cons_succ]
  refine wpH_take (i := 3) (v := (.bool true)) (some 29) rfl rfl (by kernel_rfl) (by kernel_rfl) (by kernel_rfl) (fun _ _ _ h => h) (Or.inl ⟨by rfl, fun w' hS => (by go_simp)⟩) S5 ?_
  try simp only [Go.Act.put, List.setIfInBounds_toArray, List.set_cons_zero, List.set_cons_succ]
  refine wpH_take (i := 4) (v := (.bool false)) (some 30) rfl rfl (by kernel_rfl) (by kernel_rfl) (by kernel_rfl) (fun _ _ _ h => h) (Or.inl ⟨by rfl, fun w' hS => (by go_simp)⟩) S5 ?_
  try simp only [Go.Act.put, List.setIfInBounds_toArray, List.set_cons_zero, List.set_cons_succ]
  refine wpH_take (i := 5) (v := (.bool false)) (some 31) rfl rfl (by kernel_rfl) (by kernel_rfl) (by kernel_rfl) (fun _ _ _ h => h) (Or.inl ⟨by rfl, fun w' hS => (by go_simp)⟩) S5 ?_
  try simp only [Go.Act.put, List.setIfInBounds_toArray, List.set_cons_zero, List.set_cons_succ]
  refine wpH_take (i := 6) (v := (.bool false)) (some 32) rfl rfl (by kernel_rfl) (by kernel_rfl) (by kernel_rfl) (fun _ _ _ h => h) (Or.inl ⟨by rfl, fun w' hS => (by go_simp)⟩) S5 ?_
  try simp only [Go.Act.put, List.setIfInBounds_toArray, List.set_cons_zero, List.set_cons_succ]
  refine wpH_take (i := 7) (v := (.pointer (some ⟨b, 0, none⟩))) (some 33) rfl rfl (by kernel_rfl) (by kernel_rfl) (by kernel_rfl) (fun _ _ _ h => h) (Or.inl ⟨by rfl, fun w' hS => (by go_simp)⟩) S5 ?_
  try simp only [Go.Act.put, List.setIfInBounds_toArray, List.set_cons_zero, List.set_cons_succ]
  refine wpH_take (i := 9) (v := (.slice a n c)) (some 35) rfl rfl (by kernel_rfl) (by kernel_rfl) (by kernel_rfl) (fun _ _ _ h => h) (Or.inl ⟨by rfl, fun w' hS => (by have z0 := CW _ hS; go_simp)⟩) S5 ?_
  try simp only [Go.Act.put, List.setIfInBounds_toArray, List.set_cons_zero, List.set_cons_succ]
  refine wpH_take (i := 10) (v := (.int .i64 NL)) (some 36) rfl rfl (by kernel_rfl) (by kernel_rfl) (by kernel_rfl) (fun _ _ _ h => h) (Or.inl ⟨by rfl, fun w' hS => (by go_simp)⟩) S5 ?_
  try simp only [Go.Act.put, List.setIfInBounds_toArray, List.set_cons_zero, List.set_cons_succ]
  refine wpH_call (i := 8) (o := { dst := some 34, op := Op.call { callee := Callee.value (Operand.func 16), args := #[Operand.tmp 33], argTypes := #[49] }, type := 3, pos := _, after := #[{ on := 7, ground := Ground.data }, { on := 6, ground := Ground.chain }, { on := 6, ground := Ground.guard }], guard := some (6, false) }) (by kernel_rfl) rfl (fun K' hK => ?_)
  rw [if_pos (by rfl)]
  go_simp
  refine (HLen.out _ S5).mono ?_
  rintro r wq ⟨rfl, e1⟩
  rw [e1]
  clear e1 wq
  refine hK.out _ _ S5 ?_
  clear hK
  try simp only [Go.Act.put, List.setIfInBounds_toArray, List.set_cons_zero, List.set_cons_succ]
  refine wpH_take (i := 11) (v := (.bool false)) (some 37) rfl rfl (by kernel_rfl) (by kernel_rfl) (by kernel_rfl) (fun _ _ _ h => h) (Or.inl ⟨by rfl, fun w' hS => (by go_simp)⟩) S5 ?_
  try simp only [Go.Act.put, List.setIfInBounds_toArray, List.set_cons_zero, List.set_cons_succ]
  refine wpH_take (i := 12) (v := (.bool false)) (some 38) rfl rfl (by kernel_rfl) (by kernel_rfl) (by kernel_rfl) (fun _ _ _ h => h) (Or.inl ⟨by rfl, fun w' hS => (by go_simp)⟩) S5 ?_
  try simp only [Go.Act.put, List.setIfInBounds_toArray, List.set_cons_zero, List.set_cons_succ]
  refine wpAnyH_done (by kernel_rfl) ?_ _
  go_wp2_with fail
  have H5 := hid S5
  clear S0 S5 CW HAw HLen
  have HAll := hid (all_ H5.out.q)
  unfold PT at HAll
  refine Calls.mono HAll.out ?_
  rintro r w6 ⟨u2, rfl, o6, t6⟩
  clear HAll
  obtain ⟨a2, c2, e2⟩ := own_form o6
  subst e2
  rw [HnL.out] at o6 ⊢
  have A6 := hid (H5.out.touch t6)
  have cw := cell_at A6.out.wn (j := 0) rfl
  have I6 : Hid (Al w5 (.slice a2 n c2) n 0 L w6) := ⟨t6, L, HnL.out, fun _ _ => rfl, o6⟩
  clear o6 t6 A6
  go_wp2_with fail
  go_loopw [48] (fun i wr => ∃ j : Nat, i = .int .i64 j ∧ j ≤ n ∧ Hid (Al w5 (.slice a2 n c2) n j L wr)) (fun i _ => n - (intOf i).toNat)
  case atStart => exact ⟨0, rfl, Nat.zero_le _, I6⟩
  case round =>
    clear I6 cw
    obtain ⟨j, rfl, hj, HI⟩ := hrel
    by_cases hlt : j < n
    · have hz : (j : Int) < NL := by omega
      obtain ⟨e, he⟩ : ∃ e, L[j]? = some e := ⟨_, List.getElem?_eq_getElem (by rw [HnL.out]; exact hlt)⟩
      have Ar := H5.out.touch HI.out.t
      have hrow := Ar.ou
      rw [HnL.out] at hrow
      obtain ⟨g, c', e1, _, hg⟩ := own_some hrow (by omega)
      simp only [Value.slice.injEq] at e1
      obtain ⟨rfl, -, rfl⟩ := e1
      obtain ⟨p0, p1, p2, p3, p4, p5, p6, p7, p8, p9, p10, p11, p12⟩ := rc_own hrow he
      obtain ⟨M, hM, hk, hm⟩ := HI.out.m
      obtain ⟨g2, c3, e1, _, hg2⟩ := own_some hm (by omega)
      simp only [Value.slice.injEq] at e1
      obtain ⟨rfl, -, rfl⟩ := e1
      have HD : Hid (∀ w', Touch [] wr w' → Rc w' g2 (j * 13) e ∧ w'.frozen? ⟨g2, j * 13 + 4, none⟩ = false) := hid (fun w' t => by
        have h1 := own_touch hm t (by simp)
        exact ⟨rc_own h1 ((hk j (Nat.le_refl _)).trans he), own_frozen h1 _⟩)
      have HAt : Hid (∀ w', Touch [] wr w' → Calls Tryz.prog 18 #[PT b, .int .i64 j] w' fun r w'' => r = .returned (.tuple #[e.val, .bool true]) ∧ Touch [] w' w'') := hid (fun w' t => at_in (Ar.q.touch0 t) j e he)
      have HBump : Hid (∀ X k, Touch [] wr X → Al w5 (.slice (some ⟨g2, 0, none⟩) n c2) n (j + 1) L (X.setCell ⟨g2, j * 13 + 4, none⟩ (.int .i64 k))) := hid (fun X k t => HI.out.bump t he k)
      have IB : Hid (∀ w', Touch [] (wr.alloc (.cells #[.int .i64 e.at_, .int .i64 e.kd, .int .i64 e.cl, .int .i64 e.ca, .int .i64 e.ru, .int .i64 e.ge, .int .i64 e.ho, .int .u16 e.sp, .string e.nm, .int .i64 e.va, .int .i64 e.fk, .int .i64 e.fc, .int .i64 e.fr] 30)) w' → Ib w' wr.heap.size e) := hid (fun w' t => (Ib.new wr e 30).touch t)
      have IC : Hid (∀ W : World, Ib (W.alloc (.cells #[.int .i64 e.at_, .int .i64 e.kd, .int .i64 e.cl, .int .i64 e.ca, .int .i64 e.ru, .int .i64 e.ge, .int .i64 e.ho, .int .u16 e.sp, .string e.nm, .int .i64 e.va, .int .i64 e.fk, .int .i64 e.fc, .int .i64 e.fr] 30)) W.heap.size e) := hid (fun W => Ib.new W e 30)
      have hq := neE e
      have TA : Hid (Touch [] wr (wr.alloc (.cells #[.int .i64 e.at_, .int .i64 e.kd, .int .i64 e.cl, .int .i64 e.ca, .int .i64 e.ru, .int .i64 e.ge, .int .i64 e.ho, .int .u16 e.sp, .string e.nm, .int .i64 e.va, .int .i64 e.fk, .int .i64 e.fc, .int .i64 e.fr] 30))) := (Touch.refl [] wr).alloc _
      clear HI he Ar hrow hM hk hm
      unfold Ez.val PT at *
      go_wp2_with fail
      refine (HAt.out _ TA.out).mono ?_
      rintro r w7 ⟨rfl, t7⟩
      have T7 := hid t7
      clear t7 p0 p1 p2 p3 p4 p5 p6 p7 p8 p9 p10 p11 p12
      go_upto_region 11 with fail
      obtain ⟨k1, hk1⟩ : ∃ k1, k1 = wr.heap.size := ⟨_, rfl⟩
      obtain ⟨k2, hk2⟩ : ∃ k2, k2 = w7.heap.size := ⟨_, rfl⟩
      obtain ⟨X, hX⟩ : ∃ X, X = w7.alloc (.cells #[.int .i64 e.at_, .int .i64 e.kd, .int .i64 e.cl, .int .i64 e.ca, .int .i64 e.ru, .int .i64 e.ge, .int .i64 e.ho, .int .u16 e.sp, .string e.nm, .int .i64 e.va, .int .i64 e.fk, .int .i64 e.fc, .int .i64 e.fr] 30) := ⟨_, rfl⟩
      have TX : Touch [] (wr.alloc (.cells #[.int .i64 e.at_, .int .i64 e.kd, .int .i64 e.cl, .int .i64 e.ca, .int .i64 e.ru, .int .i64 e.ge, .int .i64 e.ho, .int .u16 e.sp, .string e.nm, .int .i64 e.va, .int .i64 e.fk, .int .i64 e.fc, .int .i64 e.fr] 30)) X := by rw [hX]; exact T7.out.alloc _
      have TX' := TA.out.trans' TX
      obtain ⟨⟨d0, d1, d2, d3, d4, d5, d6, d7, d8, d9, d10, d11, d12⟩, fz⟩ := HD.out _ TX'
      obtain ⟨x0, x1, x2, x3, x4, x5, x6, x7, x8, x9, x10, x11, x12⟩ := IB.out _ TX
      have yy := IC.out w7
      rw [← hX] at yy
      obtain ⟨y0, y1, y2, y3, y4, y5, y6, y7, y8, y9, y10, y11, y12⟩ := yy
      rw [← hX, ← hk1, ← hk2]
      simp only [← hk1] at x0 x1 x2 x3 x4 x5 x6 x7 x8 x9 x10 x11 x12
      simp only [← hk2] at y0 y1 y2 y3 y4 y5 y6 y7 y8 y9 y10 y11 y12
      have TXH := hid TX'
      clear hX TX TX' hk1 hk2 T7 TA IB IC HD HAt
      go_region
      clear x0 x1 x2 x3 x4 x5 x6 x7 x8 x9 x10 x11 x12 y0 y1 y2 y3 y4 y5 y6 y7 y8 y9 y10 y11 y12 hq
      go_wp2_with fail
      go_roundw
      case rel => exact ⟨j + 1, by go_num, by omega, HBump.out _ _ (TXH.out.drew)⟩
      case measure => simp [intOf]; omega
    · have hz : ¬ (j : Int) < NL := by omega
      have HAr := hid (H5.out.touch HI.out.t)
      have cw := cell_at HAr.out.wn (j := 0) rfl
      clear HI H5
      go_wp2_with fail
      obtain ⟨wo, rfl⟩ : ∃ wo, wo = wr := ⟨_, rfl⟩
      obtain ⟨Y, hY⟩ : ∃ Y, Y = wo.alloc (.cells #[.int .i64 (-1), .int .i64 NL] 3) := ⟨_, rfl⟩
      have TY : Touch [] wo Y := by rw [hY]; exact (Touch.refl [] wo).alloc _
      have bY : Y.heap[wo.heap.size]? = some (.cells #[.int .i64 (-1), .int .i64 NL] 3 (0, 0)) := by rw [hY]; exact heap_alloc_new wo _
      have HAY := hid (HAr.out.touch TY)
      have HCY : Hid (∀ w', Touch [] Y w' → w'.cell? ⟨wo.heap.size, 0, none⟩ = some (.int .i64 (-1)) ∧ w'.cell? ⟨wo.heap.size, 1, none⟩ = some (.int .i64 NL)) := hid (fun w' t => ⟨cell_at (t.keep bY (by simp)) rfl, cell_at (t.keep bY (by simp)) rfl⟩)
      obtain ⟨kb, hkb⟩ : ∃ kb, kb = wo.heap.size := ⟨_, rfl⟩
      rw [← hkb] at HCY ⊢
      rw [← hY]
      clear hY TY bY HAr cw hkb
      have HAt : Hid (∀ w' k, Touch [] Y w' → (k < 0 ∨ NL ≤ k) → Calls Tryz.prog 18 #[PT b, .int .i64 k] w' fun r w'' => r = .returned (.tuple #[.agg #[.int .i64 0, .int .i64 0, .int .i64 0, .int .i64 0, .int .i64 0, .int .i64 0, .int .i64 0, .int .u16 0, .string ⟨#[]⟩, .int .i64 0, .int .i64 0, .int .i64 0, .int .i64 0], .bool false]) ∧ Touch [] w' w'') := hid (fun w' k t hk => at_out (HAY.out.touch t).q k (by rw [HnL.out, HNL.out]; exact hk))
      have hq : ∀ w', (binOp .neq 30 (.agg #[.int .i64 0, .int .i64 0, .int .i64 0, .int .i64 0, .int .i64 0, .int .i64 0, .int .i64 0, .int .u16 0, .string ⟨#[]⟩, .int .i64 0, .int .i64 0, .int .i64 0, .int .i64 0]) (.agg #[.int .i64 0, .int .i64 0, .int .i64 0, .int .i64 0, .int .i64 0, .int .i64 0, .int .i64 0, .int .u16 0, .string ⟨#[]⟩, .int .i64 0, .int .i64 0, .int .i64 0, .int .i64 0])).run Tryz.prog w' = .ok (.bool false) w' := fun w' => neE e0 w'
      unfold PT at HAt
      go_loopw [87] (fun i wr => ∃ j : Nat, i = .int .i64 j ∧ j ≤ 2 ∧ Hid (Touch [] Y wr)) (fun i _ => 2 - (intOf i).toNat)
      case atStart => exact ⟨0, rfl, Nat.zero_le _, Touch.refl [] Y⟩
      case round =>
      obtain ⟨j2, rfl, hj2, HT2⟩ := hrel
      obtain ⟨y0, y1⟩ := HCY.out _ HT2.out
      rcases (by omega : j2 = 0 ∨ j2 = 1 ∨ j2 = 2) with rfl | rfl | rfl
      · go_wp2_with fail
        refine (HAt.out _ _ HT2.out (Or.inl (by decide))).mono ?_
        rintro r w8 ⟨rfl, t8⟩
        have T8 := hid (HT2.out.trans' t8)
        clear t8 y0 y1
        go_wp2_with fail
        go_roundw
        case rel => exact ⟨1, rfl, by omega, T8.out.alloc _⟩
        case measure => simp [intOf]
      · go_wp2_with fail
        refine (HAt.out _ _ HT2.out (Or.inr (Int.le_refl _))).mono ?_
        rintro r w8 ⟨rfl, t8⟩
        have T8 := hid (HT2.out.trans' t8)
        clear t8 y0 y1
        go_wp2_with fail
        go_roundw
        case rel => exact ⟨2, rfl, by omega, T8.out.alloc _⟩
        case measure => simp [intOf]
      · have A9 := HAY.out.touch HT2.out
        have cw := cell_at A9.wn (j := 0) rfl
        have HA9 := hid A9
        clear A9 HAt HAY HCY hq y0 y1
        have hJ : Aj w B B b v (.slice a n c) (wr.heap.size + 1) wr.heap.size kw ke L K 0 ((wr.alloc (.cells #[.int .i64 0] 3)).alloc (.cells #[.bool true] 4)) := by
          have ta : Touch [] wr (wr.alloc (.cells #[.int .i64 0] 3)) := (Touch.refl [] wr).alloc _
          have tb : Touch [] (wr.alloc (.cells #[.int .i64 0] 3)) ((wr.alloc (.cells #[.int .i64 0] 3)).alloc (.cells #[.bool true] 4)) := (Touch.refl [] _).alloc _
          have h1 := HA9.out.touch (ta.trans' tb)
          have h2 := heap_alloc_new (wr.alloc (.cells #[.int .i64 0] 3)) (.cells #[.bool true] 4)
          rw [World.size_alloc] at h2
          have h3 := HA9.out.t.size
          have h4 := block_lt HA9.out.en
          exact ⟨h1.t, h1.q, h2, tb.keep (heap_alloc_new wr _) (by simp), h1.wn, h1.en, h1.ou, by omega, by omega, by omega⟩
        have HE := hid (eachA_ hJ)
        have HNf := hid (fun w' => Each_nf b w')
        rw [HnL.out] at HE
        unfold PT at HE HNf
        clear hJ
        go_wp2_with fail
        refine Calls.mono HE.out ?_
        rintro r w9 ⟨rfl, h9⟩
        clear HE HA9 cw
        have f9 := cell_at h9.f (j := 0) rfl
        have n9 := cell_at h9.n (j := 0) rfl
        have cw := cell_at h9.wn (j := 0) rfl
        have e9 := cell_at h9.en (j := 0) rfl
        have T9 := hid h9.t
        generalize wr.heap.size + 1 = kf at *
        generalize wr.heap.size = kn at *
        clear h9
        by_cases hk1 : 0 < K
        · by_cases hk2 : K < NL
          · have e1 : cntK K n = K := if_pos ⟨hk1, by rw [HNL.out]; exact hk2⟩
            rw [e1] at n9
            clear e1
            go_wp2_with fail
            refine (HNf.out _).mono ?_
            rintro r wq ⟨rfl, e1⟩
            rw [e1]
            clear e1 wq
            go_wp2_with fail
            go_ret
            exact ⟨rfl, T9.out⟩
          · have e1 : cntK K n = NL := by rw [← HNL.out]; exact if_neg (fun h => hk2 (by rw [← HNL.out]; exact h.2))
            rw [e1] at n9
            clear e1
            go_wp2_with fail
            refine (HNf.out _).mono ?_
            rintro r wq ⟨rfl, e1⟩
            rw [e1]
            clear e1 wq
            go_wp2_with fail
            go_ret
            exact ⟨rfl, T9.out⟩
        · have e1 : cntK K n = NL := by rw [← HNL.out]; exact if_neg (fun h => hk1 h.1)
          rw [e1] at n9
          clear e1
          go_wp2_with fail
          refine (HNf.out _).mono ?_
          rintro r wq ⟨rfl, e1⟩
          rw [e1]
          clear e1 wq
          go_wp2_with fail
          go_ret
          exact ⟨rfl, T9.out⟩
end Go.Proofs.YtlhieohjabbgdaaGreatDoorR.Tr
