/- Both tables in the midst of an act: a box that was laid since is written. -/
import Derived.Test.YtpihhlllembdeaaGreatGbo
import Derived.Test.YtpihhlllembdeaaGreatDon
import Derived.Test.YtpihhlllembdeaaGreatDst
import Derived.Test.YtpihhlllembdeaaGreatGac
namespace Go.Proofs.YtpihhlllembdeaaGreat
open Go.RowKit Go.Maps Go.ChangeMaps
set_option linter.unusedVariables false
section
variable {w V cur new : World} {t : Nat} {F F' : List Nat} {lv gv lv' gv' lv2 gv2 : Value} {ds ds' ds2 : List De} {gs' gs2 : List (K × Int)} {Tp Td Td' : Tb} {N : Nat}
theorem BoV.far (h : BoV w V cur t F lv gv ds lv' gv' ds' gs' Tp Td N F') {b : Nat} (X : Touch [b] cur new) (h0 : w.heap.size ≤ b) (h1 : ¬ b ∈ F') (h2 : ¬ b ∈ fpD lv' gv' ds') : BoV w V new t F lv gv ds lv' gv' ds' gs' Tp Td N F' := by
  obtain ⟨q1, q2, q3, q4, q5, q6⟩ := h
  refine ⟨q1.keep X (fun d hd e => ?_), q2, q3.keep X (fun d hd e => ?_), q4, q5.trans X (fun d hd => Or.inr ?_), q6⟩
  · simp only [List.mem_singleton] at e
    exact h1 (e ▸ hd)
  · simp only [List.mem_singleton] at e
    exact h2 (e ▸ hd)
  · simp only [List.mem_singleton] at hd
    omega
/-- A step of the document's, and a block laid ahead of it that is no part of either table. -/
theorem BoV.docNew (h : BoV w V cur t F lv gv ds lv' gv' ds' gs' Tp Td N F') (hV : V.heap.size ≤ cur.heap.size) (e : DtE cur new lv' gv' ds' lv2 gv2 gs2 Td') {b : Nat} (hb : b < cur.heap.size) (h1 : ¬ b ∈ F') (h2 : ¬ b ∈ fpD lv' gv' ds') : ∃ ds3, BoV w V new t F lv gv ds lv2 gv2 ds3 gs2 Tp Td' N F' ∧ ¬ b ∈ fpD lv2 gv2 ds3 := by
  obtain ⟨q1, q2, q3, q4, q5, q6, q7, q8⟩ := h
  obtain ⟨ds3, a1, a2, a3⟩ := e
  refine ⟨ds3, ⟨q1.keep0 a2, q2, a1, fun c hc => ?_, q5.trans a2 (fun _ e => by cases e), q6, q7, q8⟩, fun hc => ?_⟩
  · rcases a3 c hc with k | k
    · exact q4 c k
    · exact ⟨fun hb' => by have := q1.lt c hb'; omega, Or.inr (Nat.le_trans hV k)⟩
  · rcases a3 b hc with k | k
    · exact h2 k
    · omega
theorem BoV.fresh (h : BoV w V cur t F lv gv ds lv' gv' ds' gs' Tp Td N F') {b : Nat} (hb : cur.heap.size ≤ b) : ¬ b ∈ F' ∧ ¬ b ∈ fpD lv' gv' ds' :=
  ⟨fun e => by have := h.1.lt b e; omega, fun e => by have := h.2.2.1.lt b e; omega⟩
end
end Go.Proofs.YtpihhlllembdeaaGreat
/- The contract of the document's Forget. -/
namespace Go.Proofs.YtpihhlllembdeaaGreat
open Go.RowKit Go.Maps Go.ChangeMaps
set_option linter.unusedVariables false
set_option linter.unusedSimpArgs false
theorem on_pos {gs : List (K × Int)} {k : K} : ofL (onL gs k) k = ofL gs k + 1 := by rw [ofL_on, if_pos rfl]
set_option maxHeartbeats 4000000 in
set_option maxRecDepth 100000 in
theorem forget_ (w : World) (fl bg r : Int) (la ga : Option Addr) (n lc gn gc : Nat) (ds : List De) (gs : List (K × Int)) (k : K) (hn : n = ds.length) (hl : n ≤ 1700000000000) (hgn : gn = gs.length) (hgl : gn ≤ 2000000000000) (h0 : 0 ≤ ofL gs k) (h1 : ofL gs k ≤ 2000000000000) (h : w.ownsRow 0 78 8 (.slice la n lc) n (ds.flatMap row8)) (h2 : w.ownsRow 0 122 3 (.slice ga gn gc) gn (gs.flatMap row3)) (hv : ∀ d ∈ ds, ∃ a m c, d.v = .slice a m c)
    (hp : (posC (ofL gs) (desOf ds) k = -1 ∧ r = 0) ∨ ∃ i d, posC (ofL gs) (desOf ds) k = ((i : Nat) : Int) ∧ ds[i]? = some d ∧ r = d.R.run) :
    Calls Tryz.prog 17 #[.agg #[.int .i64 fl, .int .i64 bg, .slice la n lc, .slice ga gn gc], kv k] w fun e w' => ∃ a c, e = .returned (.tuple #[.agg #[.int .i64 fl, .int .i64 bg, .slice la n lc, .slice a (onL gs k).length c], .int .i64 (ofL gs k + 1), .int .i64 r]) ∧ w'.ownsRow w.heap.size 122 3 (.slice a (onL gs k).length c) (onL gs k).length ((onL gs k).flatMap row3) ∧ Touch [] w w' := by
  obtain ⟨V, hV⟩ : ∃ V, V = ((w.alloc (.cells #[.int .i64 fl, .int .i64 bg, .slice la n lc, .slice ga gn gc] 31)).alloc (bxRK k)).alloc (.cells #[.int .i64 0, .int .i64 0, .slice none 0 0, .slice none 0 0] 31) := ⟨_, rfl⟩
  have TV : Touch [] w V := by rw [hV]; exact (((Touch.refl _ _).alloc _).alloc _).alloc _
  have hsz : V.heap.size = w.heap.size + 3 := by rw [hV]; simp
  have hbT : V.heap[w.heap.size]? = some (.cells #[.int .i64 fl, .int .i64 bg, .slice la n lc, .slice ga gn gc] 31 (0, 0)) := by rw [hV]; exact (Below.heap_alloc _ _ _ (by simp; omega)).trans ((Below.heap_alloc _ _ _ (by simp)).trans (heap_alloc_new w _))
  have hbK : V.heap[w.heap.size + 1]? = some (.cells #[.int .u16 k.1, .string k.2] 68 (0, 0)) := by
    rw [hV]
    have := heap_alloc_new (w.alloc (.cells #[.int .i64 fl, .int .i64 bg, .slice la n lc, .slice ga gn gc] 31)) (bxRK k)
    rw [World.size_alloc] at this
    exact (Below.heap_alloc _ _ _ (by simp)).trans this
  have hbZ : V.heap[w.heap.size + 1 + 1]? = some (.cells #[.int .i64 0, .int .i64 0, .slice none 0 0, .slice none 0 0] 31 (0, 0)) := by
    rw [hV]
    have := heap_alloc_new ((w.alloc (.cells #[.int .i64 fl, .int .i64 bg, .slice la n lc, .slice ga gn gc] 31)).alloc (bxRK k)) (.cells #[.int .i64 0, .int .i64 0, .slice none 0 0, .slice none 0 0] 31)
    rwa [World.size_alloc, World.size_alloc] at this
  have HC : Hid (Calls Tryz.prog 30 #[.agg #[.int .i64 fl, .int .i64 bg, .slice la n lc, .slice ga gn gc], kv k] V fun e w2 => e = .returned (.int .i64 (posC (ofL gs) (desOf ds) k)) ∧ Touch [] V w2) := current_ V fl bg la ga n lc gn gc ds gs k hn (by omega) hgn (by omega) (own_touch h TV (fun _ _ e => by cases e)) (own_touch h2 TV (fun _ _ e => by cases e)) hv
  have HO : Hid (∀ w', Touch [] V w' → Calls Tryz.prog 51 #[.agg #[.int .i64 fl, .int .i64 bg, .slice la n lc, .slice ga gn gc], kv k] w' fun e w2 => ∃ a c, e = .returned (.agg #[.int .i64 fl, .int .i64 bg, .slice la n lc, .slice a (onL gs k).length c]) ∧ w2.ownsRow V.heap.size 122 3 (.slice a (onL gs k).length c) (onL gs k).length ((onL gs k).flatMap row3) ∧ Touch [] V w2) := fun w' X => by
    refine (on_ w' fl bg la ga n lc gn gc gs k hgn (by omega) h0 (by omega) (own_touch h2 (TV.trans' X) (fun _ _ e => by cases e))).mono ?_
    rintro e w2 ⟨a, c, rfl, q1, q2⟩
    exact ⟨a, c, rfl, own_base q1 X.size, X.trans' q2⟩
  have HF : Hid (∀ W w' a c, W.ownsRow 0 122 3 (.slice a (onL gs k).length c) (onL gs k).length ((onL gs k).flatMap row3) → Touch [] W w' → Calls Tryz.prog 32 #[.agg #[.int .i64 fl, .int .i64 bg, .slice la n lc, .slice a (onL gs k).length c], kv k] w' fun e w2 => e = .returned (.int .i64 (ofL gs k + 1)) ∧ Touch [] W w2) := fun W w' a c ho X => by
    have hle := onP_len gs k (i := gn) (Nat.le_refl gn)
    rw [onP_all gs k hgn] at hle
    refine (of_ w' fl bg la a n lc _ c (onL gs k) k rfl (by omega) (own_touch ho X (fun _ _ e => by cases e))).mono ?_
    rintro e w2 ⟨rfl, q⟩
    exact ⟨by rw [on_pos], X.trans' q⟩
  have HK : Hid (∀ w', Touch [] V w' → w'.heap[w.heap.size]? = some (.cells #[.int .i64 fl, .int .i64 bg, .slice la n lc, .slice ga gn gc] 31 (0, 0)) ∧ w'.heap[w.heap.size + 1]? = some (.cells #[.int .u16 k.1, .string k.2] 68 (0, 0)) ∧ w'.heap[w.heap.size + 1 + 1]? = some (.cells #[.int .i64 0, .int .i64 0, .slice none 0 0, .slice none 0 0] 31 (0, 0))) := fun w' X => ⟨X.keep hbT (by simp), X.keep hbK (by simp), X.keep hbZ (by simp)⟩
  have HG : Hid (∀ w', Touch [] V w' → w'.ownsRow 0 78 8 (.slice la n lc) n (ds.flatMap row8)) := fun w' t => own_touch h (TV.trans' t) (fun _ _ e => by cases e)
  have a0 := cell_at (j := 0) hbT rfl
  have a1 := cell_at (j := 1) hbT rfl
  have a2 := cell_at (j := 2) hbT rfl
  have a3 := cell_at (j := 3) hbT rfl
  have b0 := cell_at (j := 0) hbK rfl
  have b1 := cell_at (j := 1) hbK rfl
  have HN := hid hn
  have zn : (n : Int) ≤ 1700000000000 := by omega
  have HT := hid TV
  have HS := hid hsz
  clear hn h hl hbK hbT hbZ TV hsz h0 h1 h2 hv hgn hgl
  obtain ⟨og, hog⟩ : ∃ og, og = ofL gs k + 1 := ⟨_, rfl⟩
  rw [← hog] at HF ⊢
  clear hog
  unfold bxRK at hV
  unfold kv at HO HC HF ⊢
  go_enter Tryz.func17, Tryz.ntmps17
  go_upto_region 1 with fail
  rw [← hV]
  clear hV
  have HCm := hid (HC.out)
  rcases hp with ⟨e1, e2⟩ | ⟨i, d, e1, e2, e3⟩
  · rw [e1] at HC
    subst e2
    clear e1 HG HCm
    go_upto_region 5 with (go_at_call 30; refine HC.out.mono ?_; rintro e w2 ⟨rfl, t2⟩; have T2 := hid t2; clear t2)
    clear a0 a1 a2 a3 b0 b1 HC
    obtain ⟨kT, kK, kZ⟩ := HK.out _ T2.out
    have a0 := cell_at (j := 0) kT rfl
    have a1 := cell_at (j := 1) kT rfl
    have a2 := cell_at (j := 2) kT rfl
    have a3 := cell_at (j := 3) kT rfl
    have b0 := cell_at (j := 0) kK rfl
    have b1 := cell_at (j := 1) kK rfl
    have f0 := froz_at kT
    have HOc := hid (HO.out _ T2.out)
    clear HO kT kK kZ
    go_upto_region 6 with (go_at_call 51; refine HOc.out.mono ?_; rintro e w3 ⟨a3', c3, rfl, o3, t3⟩; clear a0 a1 a2 a3 b0 b1 f0; obtain ⟨kT, kK, kZ⟩ := HK.out _ t3; have a0 := cell_at (j := 0) kT rfl; have a1 := cell_at (j := 1) kT rfl; have a2 := cell_at (j := 2) kT rfl; have a3 := cell_at (j := 3) kT rfl; have f0 := froz_at kT; have O3 := hid o3; have T3 := hid t3; have K3 := hid (And.intro kT (And.intro kK kZ)); clear kT kK kZ t3 o3)
    clear a0 a1 a2 a3 f0 HOc HK
    generalize hm : (onL gs k).length = m at *
    have HM := hid hm
    obtain ⟨W, hW⟩ : ∃ W, W = (((w3.setCell ⟨w.heap.size, 0, none⟩ (.int .i64 fl)).setCell ⟨w.heap.size, 1, none⟩ (.int .i64 bg)).setCell ⟨w.heap.size, 2, none⟩ (.slice la n lc)).setCell ⟨w.heap.size, 3, none⟩ (.slice a3' m c3) := ⟨_, rfl⟩
    obtain ⟨kT, tW⟩ := finZ K3.out.1 (.int .i64 fl) (.int .i64 bg) (.slice la n lc) (.slice a3' m c3)
    rw [← hW] at kT tW ⊢
    clear hW hm
    have kK := tW.keep K3.out.2.1 (by simp)
    have kZ := tW.keep K3.out.2.2 (by simp; omega)
    have OW := hid (own_touch O3.out tW (fun b hb e => by have := (O3.out.lt b hb).1; have := HS.out; simp at e; omega))
    have TW := hid ((HT.out.trans' T3.out).trans tW (fun b hb => Or.inr (by simp at hb; omega)))
    have HO : Hid (∀ w', Touch [] W w' → _) := fun w' X => HF.out W w' a3' c3 (own_base OW.out (Nat.zero_le _)) X
    clear HF K3 O3 T3 tW
    have E1 : ∀ w', Touch [w.heap.size + 1 + 1] W w' → w'.cell? ⟨w.heap.size + 1, 0, none⟩ = some (.int .u16 k.1) := fun w' X => cell_at (X.keep kK (by simp)) rfl
    have E2 : ∀ w', Touch [w.heap.size + 1 + 1] W w' → w'.cell? ⟨w.heap.size + 1, 1, none⟩ = some (.string k.2) := fun w' X => cell_at (X.keep kK (by simp)) rfl
    have U0 : ∀ w', Touch [w.heap.size + 1 + 1] W w' → w'.cell? ⟨w.heap.size, 0, none⟩ = some (.int .i64 fl) := fun w' X => cell_at (X.keep kT (by simp; omega)) rfl
    have U1 : ∀ w', Touch [w.heap.size + 1 + 1] W w' → w'.cell? ⟨w.heap.size, 1, none⟩ = some (.int .i64 bg) := fun w' X => cell_at (X.keep kT (by simp; omega)) rfl
    have U2 : ∀ w', Touch [w.heap.size + 1 + 1] W w' → w'.cell? ⟨w.heap.size, 2, none⟩ = some (.slice la n lc) := fun w' X => cell_at (X.keep kT (by simp; omega)) rfl
    have U3 : ∀ w', Touch [w.heap.size + 1 + 1] W w' → w'.cell? ⟨w.heap.size, 3, none⟩ = some (.slice a3' m c3) := fun w' X => cell_at (X.keep kT (by simp; omega)) rfl
    have HZ : Hid (∀ w', Touch [] W w' → w'.heap[w.heap.size + 1 + 1]? = _) := fun w' X => X.keep kZ (by simp)
    clear kT kK kZ
    have kq : Touch [] W W.drew := (Touch.refl _ _).drew
    have k0 : Touch [w.heap.size + 1 + 1] W W.drew := kq.mono (by simp)
    refine wp_region_H (S := fun w' => Touch [w.heap.size + 1 + 1] W w') (by kernel_rfl) ?_
    refine wpH_take (i := 0) (v := (.agg #[.int .i64 fl, .int .i64 bg, .slice la n lc, .slice a3' m c3])) (some 23) rfl rfl (by kernel_rfl) (by kernel_rfl) (by kernel_rfl) (fun _ _ _ h => h) (Or.inl ⟨by rfl, fun w' hS => (by have z0 := U0 _ hS; have z1 := U1 _ hS; have z2 := U2 _ hS; have z3 := U3 _ hS; go_simp)⟩) k0 ?_
    try simp only [Go.Act.put, List.setIfInBounds_toArray, List.set_cons_zero, List.set_cons_succ]
    refine wpH_take (i := 1) (v := (.agg #[.int .i64 fl, .int .i64 bg, .slice la n lc, .slice a3' m c3])) (some 24) rfl rfl (by kernel_rfl) (by kernel_rfl) (by kernel_rfl) (fun _ _ _ h => h) (Or.inl ⟨by rfl, fun w' hS => (by have z0 := U0 _ hS; have z1 := U1 _ hS; have z2 := U2 _ hS; have z3 := U3 _ hS; go_simp)⟩) k0 ?_
    try simp only [Go.Act.put, List.setIfInBounds_toArray, List.set_cons_zero, List.set_cons_succ]
    refine wpH_take (i := 2) (v := (.agg #[.int .u16 k.1, .string k.2])) (some 25) rfl rfl (by kernel_rfl) (by kernel_rfl) (by kernel_rfl) (fun _ _ _ h => h) (Or.inl ⟨by rfl, fun w' hS => (by have z0 := E1 _ hS; have z1 := E2 _ hS; go_simp)⟩) k0 ?_
    try simp only [Go.Act.put, List.setIfInBounds_toArray, List.set_cons_zero, List.set_cons_succ]
    refine wpH_take (i := 4) (v := (.int .i64 0)) (some 27) rfl rfl (by kernel_rfl) (by kernel_rfl) (by kernel_rfl) (fun _ _ _ h => h) (Or.inl ⟨by rfl, fun w' hS => (by go_simp)⟩) k0 ?_
    try simp only [Go.Act.put, List.setIfInBounds_toArray, List.set_cons_zero, List.set_cons_succ]
    refine wpH_call (i := 3) (o := { dst := some 26, op := Op.call { callee := Callee.value (Operand.func 32), args := #[Operand.tmp 24, Operand.tmp 25], argTypes := #[31, 68] }, type := 3, pos := _, after := #[{ on := 1, ground := Ground.data }, { on := 2, ground := Ground.data }], guard := none }) (by kernel_rfl) rfl (fun K' hK => ?_)
    rw [if_pos (by rfl)]
    go_simp
    refine (HO.out _ kq).mono ?_
    rintro e' w4 ⟨rfl, kO⟩
    have kS : Touch [w.heap.size + 1 + 1] W w4 := kO.mono (by simp)
    refine hK.out _ _ kS ?_
    clear hK
    try simp only [Go.Act.put, List.setIfInBounds_toArray, List.set_cons_zero, List.set_cons_succ]
    refine wpH_call (i := 5) (o := { dst := none, op := Op.store 31 (Operand.tmp 4) (Operand.tmp 23), type := 0, pos := _, after := #[{ on := 0, ground := Ground.data }, { on := 3, ground := Ground.chain }, { on := 0, ground := Ground.phase }, { on := 1, ground := Ground.textOnly Departure.lateStores }, { on := 2, ground := Ground.textOnly Departure.lateStores }, { on := 3, ground := Ground.textOnly Departure.lateStoresUnsure }, { on := 4, ground := Ground.textOnly Departure.lateStores }], guard := none }) (by kernel_rfl) rfl (fun K' hK => ?_)
    rw [if_pos (by rfl)]
    have kz := HZ.out _ kO
    have z0 := cell_at (j := 0) kz rfl
    have z1 := cell_at (j := 1) kz rfl
    have z2 := cell_at (j := 2) kz rfl
    have z3 := cell_at (j := 3) kz rfl
    have fz := froz_at kz
    go_simp
    obtain ⟨q4, tF⟩ := finZ kz (.int .i64 fl) (.int .i64 bg) (.slice la n lc) (.slice a3' m c3)
    have ks := kS.trans' tF
    refine hK.out _ _ ks ?_
    clear hK
    try simp only [Go.Act.put, List.setIfInBounds_toArray, List.set_cons_zero, List.set_cons_succ]
    refine wpH_take (i := 6) (v := (.int .i64 og)) (some 5) rfl rfl (by kernel_rfl) (by kernel_rfl) (by kernel_rfl) (fun _ _ _ h => h) (Or.inl ⟨by rfl, fun w' hS => (by go_simp)⟩) ks ?_
    try simp only [Go.Act.put, List.setIfInBounds_toArray, List.set_cons_zero, List.set_cons_succ]
    refine wpH_take (i := 7) (v := (.int .i64 0)) (some 6) rfl rfl (by kernel_rfl) (by kernel_rfl) (by kernel_rfl) (fun _ _ _ h => h) (Or.inl ⟨by rfl, fun w' hS => (by go_simp)⟩) ks ?_
    try simp only [Go.Act.put, List.setIfInBounds_toArray, List.set_cons_zero, List.set_cons_succ]
    refine wpAnyH_done (by kernel_rfl) ?_ _
    clear kz z0 z1 z2 z3 fz
    go_wp2
    have q0 := cell_at (j := 0) q4 rfl
    have q1 := cell_at (j := 1) q4 rfl
    have q2 := cell_at (j := 2) q4 rfl
    have q3 := cell_at (j := 3) q4 rfl
    refine bodyPost_ret (v := .tuple #[.agg #[.int .i64 fl, .int .i64 bg, .slice la n lc, .slice a3' m c3], .int .i64 og, .int .i64 0]) (by simp [results, Tryz.results17, go_sem, q0, q1, q2, q3]) rfl ⟨a3', c3, by rw [HM.out], ?_, ?_⟩
    · rw [HM.out]; exact own_base (own_touch OW.out ks (fun b hb e => by have := (OW.out.lt b hb).1; have := HS.out; simp at e; omega)) HT.out.size
    · exact TW.out.trans ks (fun b hb => Or.inr (by simp at hb; omega))
  · rw [e1] at HC
    subst e3
    have HD := hid e2
    have zi : (i : Int) < (n : Int) := by have := (List.getElem?_eq_some_iff.1 e2).1; have := HN.out; omega
    clear e1 e2 HCm
    go_upto_region 3 with (go_at_call 30; refine HC.out.mono ?_; rintro e w2 ⟨rfl, t2⟩; have T2 := hid t2; clear t2)
    clear a0 a1 a2 a3 b0 b1 HC
    have kT := (HK.out _ T2.out).1
    have y2 := cell_at (j := 2) kT rfl
    obtain ⟨g, c', e, _, _⟩ := own_some (HG.out _ T2.out) (by omega)
    cases e
    have r0 := (lr_cells (HG.out _ T2.out) HD.out).c0
    clear kT HG HD
    go_upto_region 5 with fail
    clear y2 r0 zi
    obtain ⟨kT, kK, kZ⟩ := HK.out _ T2.out
    have a0 := cell_at (j := 0) kT rfl
    have a1 := cell_at (j := 1) kT rfl
    have a2 := cell_at (j := 2) kT rfl
    have a3 := cell_at (j := 3) kT rfl
    have b0 := cell_at (j := 0) kK rfl
    have b1 := cell_at (j := 1) kK rfl
    have f0 := froz_at kT
    have HOc := hid (HO.out _ T2.out)
    clear HO kT kK kZ
    go_upto_region 6 with (go_at_call 51; refine HOc.out.mono ?_; rintro e w3 ⟨a3', c3, rfl, o3, t3⟩; clear a0 a1 a2 a3 b0 b1 f0; obtain ⟨kT, kK, kZ⟩ := HK.out _ t3; have a0 := cell_at (j := 0) kT rfl; have a1 := cell_at (j := 1) kT rfl; have a2 := cell_at (j := 2) kT rfl; have a3 := cell_at (j := 3) kT rfl; have f0 := froz_at kT; have O3 := hid o3; have T3 := hid t3; have K3 := hid (And.intro kT (And.intro kK kZ)); clear kT kK kZ t3 o3)
    clear a0 a1 a2 a3 f0 HOc HK
    generalize hm : (onL gs k).length = m at *
    have HM := hid hm
    obtain ⟨W, hW⟩ : ∃ W, W = (((w3.setCell ⟨w.heap.size, 0, none⟩ (.int .i64 fl)).setCell ⟨w.heap.size, 1, none⟩ (.int .i64 bg)).setCell ⟨w.heap.size, 2, none⟩ (.slice (some ⟨g, 0, none⟩) n lc)).setCell ⟨w.heap.size, 3, none⟩ (.slice a3' m c3) := ⟨_, rfl⟩
    obtain ⟨kT, tW⟩ := finZ K3.out.1 (.int .i64 fl) (.int .i64 bg) (.slice (some ⟨g, 0, none⟩) n lc) (.slice a3' m c3)
    rw [← hW] at kT tW ⊢
    clear hW hm
    have kK := tW.keep K3.out.2.1 (by simp)
    have kZ := tW.keep K3.out.2.2 (by simp; omega)
    have OW := hid (own_touch O3.out tW (fun b hb e => by have := (O3.out.lt b hb).1; have := HS.out; simp at e; omega))
    have TW := hid ((HT.out.trans' T3.out).trans tW (fun b hb => Or.inr (by simp at hb; omega)))
    have HO : Hid (∀ w', Touch [] W w' → _) := fun w' X => HF.out W w' a3' c3 (own_base OW.out (Nat.zero_le _)) X
    clear HF K3 O3 T3 tW
    have E1 : ∀ w', Touch [w.heap.size + 1 + 1] W w' → w'.cell? ⟨w.heap.size + 1, 0, none⟩ = some (.int .u16 k.1) := fun w' X => cell_at (X.keep kK (by simp)) rfl
    have E2 : ∀ w', Touch [w.heap.size + 1 + 1] W w' → w'.cell? ⟨w.heap.size + 1, 1, none⟩ = some (.string k.2) := fun w' X => cell_at (X.keep kK (by simp)) rfl
    have U0 : ∀ w', Touch [w.heap.size + 1 + 1] W w' → w'.cell? ⟨w.heap.size, 0, none⟩ = some (.int .i64 fl) := fun w' X => cell_at (X.keep kT (by simp; omega)) rfl
    have U1 : ∀ w', Touch [w.heap.size + 1 + 1] W w' → w'.cell? ⟨w.heap.size, 1, none⟩ = some (.int .i64 bg) := fun w' X => cell_at (X.keep kT (by simp; omega)) rfl
    have U2 : ∀ w', Touch [w.heap.size + 1 + 1] W w' → w'.cell? ⟨w.heap.size, 2, none⟩ = some (.slice (some ⟨g, 0, none⟩) n lc) := fun w' X => cell_at (X.keep kT (by simp; omega)) rfl
    have U3 : ∀ w', Touch [w.heap.size + 1 + 1] W w' → w'.cell? ⟨w.heap.size, 3, none⟩ = some (.slice a3' m c3) := fun w' X => cell_at (X.keep kT (by simp; omega)) rfl
    have HZ : Hid (∀ w', Touch [] W w' → w'.heap[w.heap.size + 1 + 1]? = _) := fun w' X => X.keep kZ (by simp)
    clear kT kK kZ
    have kq : Touch [] W W.drew := (Touch.refl _ _).drew
    have k0 : Touch [w.heap.size + 1 + 1] W W.drew := kq.mono (by simp)
    refine wp_region_H (S := fun w' => Touch [w.heap.size + 1 + 1] W w') (by kernel_rfl) ?_
    refine wpH_take (i := 0) (v := (.agg #[.int .i64 fl, .int .i64 bg, .slice (some ⟨g, 0, none⟩) n lc, .slice a3' m c3])) (some 23) rfl rfl (by kernel_rfl) (by kernel_rfl) (by kernel_rfl) (fun _ _ _ h => h) (Or.inl ⟨by rfl, fun w' hS => (by have z0 := U0 _ hS; have z1 := U1 _ hS; have z2 := U2 _ hS; have z3 := U3 _ hS; go_simp)⟩) k0 ?_
    try simp only [Go.Act.put, List.setIfInBounds_toArray, List.set_cons_zero, List.set_cons_succ]
    refine wpH_take (i := 1) (v := (.agg #[.int .i64 fl, .int .i64 bg, .slice (some ⟨g, 0, none⟩) n lc, .slice a3' m c3])) (some 24) rfl rfl (by kernel_rfl) (by kernel_rfl) (by kernel_rfl) (fun _ _ _ h => h) (Or.inl ⟨by rfl, fun w' hS => (by have z0 := U0 _ hS; have z1 := U1 _ hS; have z2 := U2 _ hS; have z3 := U3 _ hS; go_simp)⟩) k0 ?_
    try simp only [Go.Act.put, List.setIfInBounds_toArray, List.set_cons_zero, List.set_cons_succ]
    refine wpH_take (i := 2) (v := (.agg #[.int .u16 k.1, .string k.2])) (some 25) rfl rfl (by kernel_rfl) (by kernel_rfl) (by kernel_rfl) (fun _ _ _ h => h) (Or.inl ⟨by rfl, fun w' hS => (by have z0 := E1 _ hS; have z1 := E2 _ hS; go_simp)⟩) k0 ?_
    try simp only [Go.Act.put, List.setIfInBounds_toArray, List.set_cons_zero, List.set_cons_succ]
    refine wpH_take (i := 4) (v := (.int .i64 d.R.run)) (some 27) rfl rfl (by kernel_rfl) (by kernel_rfl) (by kernel_rfl) (fun _ _ _ h => h) (Or.inl ⟨by rfl, fun w' hS => (by go_simp)⟩) k0 ?_
    try simp only [Go.Act.put, List.setIfInBounds_toArray, List.set_cons_zero, List.set_cons_succ]
    refine wpH_call (i := 3) (o := { dst := some 26, op := Op.call { callee := Callee.value (Operand.func 32), args := #[Operand.tmp 24, Operand.tmp 25], argTypes := #[31, 68] }, type := 3, pos := _, after := #[{ on := 1, ground := Ground.data }, { on := 2, ground := Ground.data }], guard := none }) (by kernel_rfl) rfl (fun K' hK => ?_)
    rw [if_pos (by rfl)]
    go_simp
    refine (HO.out _ kq).mono ?_
    rintro e' w4 ⟨rfl, kO⟩
    have kS : Touch [w.heap.size + 1 + 1] W w4 := kO.mono (by simp)
    refine hK.out _ _ kS ?_
    clear hK
    try simp only [Go.Act.put, List.setIfInBounds_toArray, List.set_cons_zero, List.set_cons_succ]
    refine wpH_call (i := 5) (o := { dst := none, op := Op.store 31 (Operand.tmp 4) (Operand.tmp 23), type := 0, pos := _, after := #[{ on := 0, ground := Ground.data }, { on := 3, ground := Ground.chain }, { on := 0, ground := Ground.phase }, { on := 1, ground := Ground.textOnly Departure.lateStores }, { on := 2, ground := Ground.textOnly Departure.lateStores }, { on := 3, ground := Ground.textOnly Departure.lateStoresUnsure }, { on := 4, ground := Ground.textOnly Departure.lateStores }], guard := none }) (by kernel_rfl) rfl (fun K' hK => ?_)
    rw [if_pos (by rfl)]
    have kz := HZ.out _ kO
    have z0 := cell_at (j := 0) kz rfl
    have z1 := cell_at (j := 1) kz rfl
    have z2 := cell_at (j := 2) kz rfl
    have z3 := cell_at (j := 3) kz rfl
    have fz := froz_at kz
    go_simp
    obtain ⟨q4, tF⟩ := finZ kz (.int .i64 fl) (.int .i64 bg) (.slice (some ⟨g, 0, none⟩) n lc) (.slice a3' m c3)
    have ks := kS.trans' tF
    refine hK.out _ _ ks ?_
    clear hK
    try simp only [Go.Act.put, List.setIfInBounds_toArray, List.set_cons_zero, List.set_cons_succ]
    refine wpH_take (i := 6) (v := (.int .i64 og)) (some 5) rfl rfl (by kernel_rfl) (by kernel_rfl) (by kernel_rfl) (fun _ _ _ h => h) (Or.inl ⟨by rfl, fun w' hS => (by go_simp)⟩) ks ?_
    try simp only [Go.Act.put, List.setIfInBounds_toArray, List.set_cons_zero, List.set_cons_succ]
    refine wpH_take (i := 7) (v := (.int .i64 d.R.run)) (some 6) rfl rfl (by kernel_rfl) (by kernel_rfl) (by kernel_rfl) (fun _ _ _ h => h) (Or.inl ⟨by rfl, fun w' hS => (by go_simp)⟩) ks ?_
    try simp only [Go.Act.put, List.setIfInBounds_toArray, List.set_cons_zero, List.set_cons_succ]
    refine wpAnyH_done (by kernel_rfl) ?_ _
    clear kz z0 z1 z2 z3 fz
    go_wp2
    have q0 := cell_at (j := 0) q4 rfl
    have q1 := cell_at (j := 1) q4 rfl
    have q2 := cell_at (j := 2) q4 rfl
    have q3 := cell_at (j := 3) q4 rfl
    refine bodyPost_ret (v := .tuple #[.agg #[.int .i64 fl, .int .i64 bg, .slice (some ⟨g, 0, none⟩) n lc, .slice a3' m c3], .int .i64 og, .int .i64 d.R.run]) (by simp [results, Tryz.results17, go_sem, q0, q1, q2, q3]) rfl ⟨a3', c3, by rw [HM.out], ?_, ?_⟩
    · rw [HM.out]; exact own_base (own_touch OW.out ks (fun b hb e => by have := (OW.out.lt b hb).1; have := HS.out; simp at e; omega)) HT.out.size
    · exact TW.out.trans ks (fun b hb => Or.inr (by simp at hb; omega))
end Go.Proofs.YtpihhlllembdeaaGreat
/- The document's Forget, by the plain state. -/
namespace Go.Proofs.YtpihhlllembdeaaGreat
open Go.RowKit Go.Maps Go.ChangeMaps
set_option linter.unusedVariables false
def forP (w : World) (lv gv : Value) (ds : List De) (gs : List (K × Int)) (T : Tb) (k : K) (e : Ending) (w' : World) : Prop := ∃ gv' gs', e = .returned (.tuple #[tv (goOn T k) lv gv', .int .i64 (T.gn k + 1), .int .i64 (((curOf T k).map Rn.run).getD 0)]) ∧ DtE w w' lv gv ds lv gv' gs' (goOn T k) ∧ gs'.length ≤ gs.length + 1
theorem forgetD_ (w : World) (lv gv : Value) (ds : List De) (gs : List (K × Int)) (T : Tb) (M : Nat) (k : K) (h : Dg w lv gv ds gs T M) :
    Calls Tryz.prog 17 #[tv T lv gv, kv k] w fun e w' => forP w lv gv ds gs T k e w' := by
  obtain ⟨la, lc, ga, gc, rfl, rfl⟩ := h.dt.form
  have hM := h.hM
  have hgl := h.gl
  have hnl := h.len
  have g1 := h.ti.gn k
  have g2 := h.dt.go k
  have hgo : ofL gs = T.gn := funext h.dt.go
  have hp : (posC (ofL gs) (desOf ds) k = -1 ∧ ((curOf T k).map Rn.run).getD 0 = 0) ∨ ∃ i d, posC (ofL gs) (desOf ds) k = ((i : Nat) : Int) ∧ ds[i]? = some d ∧ ((curOf T k).map Rn.run).getD 0 = d.R.run := by
    rw [hgo]
    rcases posC_lt (g := T.gn) (l := desOf ds) (k := k) with ⟨e1, e2⟩ | ⟨i, p, e1, e2, e3, e4⟩
    · refine Or.inl ⟨e1, ?_⟩
      cases hc : curOf T k with
      | none => rfl
      | some R =>
        obtain ⟨⟨S, hm⟩, q1, q2⟩ := curOf_some hc
        rw [h.dt.rs] at hm
        exact absurd q2 (e2 (R, S) hm q1)
    · obtain ⟨d, hd, rfl⟩ := desOf_at' e2
      refine Or.inr ⟨i, d, e1, hd, ?_⟩
      simp only at e3 e4
      have := (curOf_of_mem h.ti (h.mem (List.mem_of_getElem? hd))).2 (by simp only [isCur]; rw [e3, e4]; simp)
      simp only at this
      rw [e3] at this
      rw [this]
      rfl
  refine (forget_ w T.fl T.bg _ la ga ds.length lc gs.length gc ds gs k rfl (by omega) rfl (by omega) (by omega) (by omega) h.dt.lr h.dt.gr h.vs hp).mono ?_
  rintro e w' ⟨a, c, rfl, o, t⟩
  refine ⟨.slice a (onL gs k).length c, onL gs k, by rw [g2]; rfl, ⟨ds, ⟨h.dt.rs, own_touch h.dt.lr t (fun _ _ e => by cases e), fun d hd => (h.dt.wr d hd).keep0 t, own_base o (Nat.zero_le _), fun j => ?_⟩, t, fun b hb => ?_⟩, ?_⟩
  · have := h.onG k true T rfl j
    simpa [onG] using this
  · rcases mem_fpD.1 hb with e | e | e
    · exact Or.inl (mem_fpD.2 (Or.inl e))
    · exact Or.inr (o.lt b e).1
    · exact Or.inl (mem_fpD.2 (Or.inr (Or.inr e)))
  · exact onG_len gs k true
end Go.Proofs.YtpihhlllembdeaaGreat
/- The law's act: a key is forgotten. -/
namespace Go.Proofs.YtpihhlllembdeaaGreat
open Go.RowKit Go.Maps Go.ChangeMaps
set_option linter.unusedVariables false
set_option linter.unusedSimpArgs false
/-- A step of the document's: what was laid ahead of it and is no part of either table stays so. -/
theorem BoV.docAll {w V cur new : World} {t : Nat} {F F' : List Nat} {lv gv lv' gv' lv2 gv2 : Value} {ds ds' : List De} {gs' gs2 : List (K × Int)} {Tp Td Td' : Tb} {N : Nat} (h : BoV w V cur t F lv gv ds lv' gv' ds' gs' Tp Td N F') (hV : V.heap.size ≤ cur.heap.size) (e : DtE cur new lv' gv' ds' lv2 gv2 gs2 Td') : ∃ ds3, BoV w V new t F lv gv ds lv2 gv2 ds3 gs2 Tp Td' N F' ∧ ∀ b, b < cur.heap.size → ¬ b ∈ fpD lv' gv' ds' → ¬ b ∈ fpD lv2 gv2 ds3 := by
  obtain ⟨q1, q2, q3, q4, q5, q6, q7, q8⟩ := h
  obtain ⟨ds3, a1, a2, a3⟩ := e
  refine ⟨ds3, ⟨q1.keep0 a2, q2, a1, fun c hc => ?_, q5.trans a2 (fun _ e => by cases e), q6, q7, q8⟩, fun b hb h2 hc => ?_⟩
  · rcases a3 c hc with k | k
    · exact q4 c k
    · exact ⟨fun hb' => by have := q1.lt c hb'; omega, Or.inr (Nat.le_trans hV k)⟩
  · rcases a3 b hc with k | k
    · exact h2 k
    · omega
set_option maxHeartbeats 4000000 in
set_option maxRecDepth 100000 in
theorem act_forT (w : World) (t : Nat) (F : List Nat) (lv gv : Value) (ds : List De) (gs : List (K × Int)) (T : Tb) (N : Nat) (a : ActT) (hw : WfA a) (h : Bo w t F lv gv ds gs T N) (hN1 : N + 1 ≤ 1700000000000) (hk : kq a = 6) (hm : a.k.2.size ≤ 64) :
    Calls Tryz.prog 6 #[PT t, tv T lv gv, av a] w fun e w' => actP w t F lv gv ds (goOn T a.k) (N + 1) e w' := by
  obtain ⟨la, lc, ga, gc, rfl, rfl⟩ := h.dt.form
  obtain ⟨n, hn⟩ : ∃ n, n = ds.length := ⟨_, rfl⟩
  obtain ⟨gn, hgn⟩ : ∃ gn, gn = gs.length := ⟨_, rfl⟩
  have HB : Hid (Bo w t F (.slice la n lc) (.slice ga gn gc) ds gs T N) := hid (by rw [hn, hgn]; exact h)
  have hnl := HB.out.dg.len
  have hFl := HB.out.tq.lt
  obtain ⟨V, hV⟩ : ∃ V, V = ((w.alloc (.cells #[.int .i64 T.fl, .int .i64 T.bg, .slice la n lc, .slice ga gn gc] 31)).alloc (.cells #[.int .i64 a.kd, .int .i64 a.rn, .int .i64 a.cl, .bool a.rf, .int .u16 a.k.1, .string a.k.2, .int .i64 a.o.1, .int .i64 a.o.2.1, .int .i64 a.o.2.2.1, .int .i64 a.o.2.2.2] 40)).alloc (.cells #[.int .i64 0, .int .i64 0, .slice none 0 0, .slice none 0 0] 31) := ⟨_, rfl⟩
  have T0 : Touch [] w V := by rw [hV]; exact (((Touch.refl _ _).alloc _).alloc _).alloc _
  have HTc : Hid (Touch F w V) := T0.mono (fun _ e => by cases e)
  have HV0 := hid T0
  have kT : V.heap[w.heap.size]? = some (.cells #[.int .i64 T.fl, .int .i64 T.bg, .slice la n lc, .slice ga gn gc] 31 (0, 0)) := by rw [hV]; exact (Below.heap_alloc _ _ _ (by simp; omega)).trans ((Below.heap_alloc _ _ _ (by simp)).trans (heap_alloc_new w _))
  have kA : V.heap[w.heap.size + 1]? = some (.cells #[.int .i64 a.kd, .int .i64 a.rn, .int .i64 a.cl, .bool a.rf, .int .u16 a.k.1, .string a.k.2, .int .i64 a.o.1, .int .i64 a.o.2.1, .int .i64 a.o.2.2.1, .int .i64 a.o.2.2.2] 40 (0, 0)) := by
    rw [hV]
    have := heap_alloc_new (w.alloc (.cells #[.int .i64 T.fl, .int .i64 T.bg, .slice la n lc, .slice ga gn gc] 31)) (.cells #[.int .i64 a.kd, .int .i64 a.rn, .int .i64 a.cl, .bool a.rf, .int .u16 a.k.1, .string a.k.2, .int .i64 a.o.1, .int .i64 a.o.2.1, .int .i64 a.o.2.2.1, .int .i64 a.o.2.2.2] 40)
    rw [World.size_alloc] at this
    exact (Below.heap_alloc _ _ _ (by simp)).trans this
  have kZ : V.heap[w.heap.size + 1 + 1]? = some (.cells #[.int .i64 0, .int .i64 0, .slice none 0 0, .slice none 0 0] 31 (0, 0)) := by
    rw [hV]
    have := heap_alloc_new ((w.alloc (.cells #[.int .i64 T.fl, .int .i64 T.bg, .slice la n lc, .slice ga gn gc] 31)).alloc (.cells #[.int .i64 a.kd, .int .i64 a.rn, .int .i64 a.cl, .bool a.rf, .int .u16 a.k.1, .string a.k.2, .int .i64 a.o.1, .int .i64 a.o.2.1, .int .i64 a.o.2.2.1, .int .i64 a.o.2.2.2] 40)) (.cells #[.int .i64 0, .int .i64 0, .slice none 0 0, .slice none 0 0] 31)
    rwa [World.size_alloc, World.size_alloc] at this
  have HN := hid hn
  have HFl := hid hFl
  have zn : (n : Int) ≤ 4096 := by omega
  unfold tv av
  rw [← hn, ← hgn]
  obtain ⟨Q, hQ⟩ : ∃ Q : Ending → World → Prop, Q = fun e w' => actP w t F (.slice la n lc) (.slice ga gn gc) ds (goOn T a.k) (N + 1) e w' := ⟨_, rfl⟩
  have HQ : Hid (∀ e w', actP w t F (.slice la n lc) (.slice ga gn gc) ds (goOn T a.k) (N + 1) e w' → Q e w') := hid (by rw [hQ]; exact fun e w' hh => hh)
  rw [← hQ]
  have HSz : Hid (V.heap.size = w.heap.size + 3) := hid (by rw [hV]; simp)
  have HBv := hid (HB.out.init T0)
  clear hQ h hFl
  have hmk : mayK a.k = true := by simp [mayK, hm]
  have HP : Hid (Calls Tryz.prog 16 #[PT t, .agg #[.int .u16 a.k.1, .string a.k.2]] V fun e w1 => e = .returned (.tuple #[.int .i64 (T.gn a.k + 1), .int .i64 (((curOf T a.k).map Rn.run).getD 0), .int .i64 0]) ∧ ∃ F', BoV w V w1 t F (.slice la n lc) (.slice ga gn gc) ds (.slice la n lc) (.slice ga gn gc) ds gs (goOn T a.k) T (N + 1) F' ∧ Touch F V w1) := by
    refine (forgetT V t F T N (HB.out.tq.keep0 T0) (by omega) a.k hw.2.2.2.1).mono ?_
    rintro e w1 ⟨rfl, q⟩
    simp only [tFor, tForN, tForR, tForE, hmk, if_true] at q ⊢
    have tq := q.choose_spec.2.1
    obtain ⟨F', b⟩ := (HB.out.init T0).prog (Nat.le_refl _) q
    exact ⟨trivial, F', b, tq⟩
  have HLk : Hid (∀ w', Calls Tryz.prog 18 #[.agg #[.int .u16 a.k.1, .string a.k.2]] w' fun e w'' => e = .returned (.agg #[.int .u16 a.k.1, .string a.k.2]) ∧ Touch [] w' w'') := hid (fun w' => lkey_ w' a.k)
  have HD : Hid (∀ w' F', BoV w V w' t F (.slice la n lc) (.slice ga gn gc) ds (.slice la n lc) (.slice ga gn gc) ds gs (goOn T a.k) T (N + 1) F' → V.heap.size ≤ w'.heap.size → Calls Tryz.prog 17 #[.agg #[.int .i64 T.fl, .int .i64 T.bg, .slice la n lc, .slice ga gn gc], .agg #[.int .u16 a.k.1, .string a.k.2]] w' fun e w2 => ∃ b5 m5 d5 ds5 gs5, e = .returned (.tuple #[.agg #[.int .i64 T.fl, .int .i64 T.bg, .slice la n lc, .slice b5 m5 d5], .int .i64 (T.gn a.k + 1), .int .i64 (((curOf T a.k).map Rn.run).getD 0)]) ∧ (BoV w V w2 t F (.slice la n lc) (.slice ga gn gc) ds (.slice la n lc) (.slice b5 m5 d5) ds5 gs5 (goOn T a.k) (goOn T a.k) (N + 1) F' ∧ gs5.length ≤ N + 1 ∧ ∀ b, b < w'.heap.size → ¬ b ∈ fpD (.slice la n lc) (.slice ga gn gc) ds → ¬ b ∈ fpD (.slice la n lc) (.slice b5 m5 d5) ds5) ∧ Touch [] w' w2) := fun w' F' X hVs => by
    refine (forgetD_ w' (.slice la n lc) (.slice ga gn gc) ds gs T N a.k (X.dg HB.out.dg.ti HB.out.dg.lv HB.out.dg.who HB.out.gl HB.out.hN)).mono ?_
    rintro e w2 ⟨gv', gs', rfl, q, hl⟩
    have t2 := q.choose_spec.2.1
    obtain ⟨ds5, X2, fr⟩ := X.docAll hVs q
    obtain ⟨b5, d5, e6⟩ := own_form X2.2.2.1.gr
    subst e6
    exact ⟨b5, _, d5, ds5, gs', rfl, ⟨X2, by have := HB.out.gl; omega, fr⟩, t2⟩
  have HE : Hid (∀ w' F' b5 m5 d5 ds5 gs5, BoV w V w' t F (.slice la n lc) (.slice ga gn gc) ds (.slice la n lc) (.slice b5 m5 d5) ds5 gs5 (goOn T a.k) (goOn T a.k) (N + 1) F' → gs5.length ≤ N + 1 → Q (.returned (.tuple #[.agg #[.int .i64 T.fl, .int .i64 T.bg, .slice la n lc, .slice b5 m5 d5], .bool true])) w') := fun w' F' b5 m5 d5 ds5 gs5 X hl => HQ.out _ _ ⟨.slice la n lc, .slice b5 m5 d5, gs5, rfl, X.fin hl hN1⟩
  clear HB HQ hn hgn T0 hw
  generalize T.fl = fl at *
  generalize T.bg = bg at *
  generalize T.gn a.k + 1 = gN at *
  generalize ((curOf T a.k).map Rn.run).getD 0 = gR at *
  have HKc := hid (And.intro kT (And.intro kA kZ))
  have a0 := cell_at (j := 0) kT rfl
  have a1 := cell_at (j := 1) kT rfl
  have a2 := cell_at (j := 2) kT rfl
  have a3 := cell_at (j := 3) kT rfl
  have af := froz_at kT
  have y0 := cell_at (j := 0) kA rfl
  have y1 := cell_at (j := 1) kA rfl
  have y2 := cell_at (j := 2) kA rfl
  have y3 := cell_at (j := 3) kA rfl
  have y4 := cell_at (j := 4) kA rfl
  have y5 := cell_at (j := 5) kA rfl
  have y6 := cell_at (j := 6) kA rfl
  have y7 := cell_at (j := 7) kA rfl
  have y8 := cell_at (j := 8) kA rfl
  have y9 := cell_at (j := 9) kA rfl
  have yf := froz_at kA
  have z0 := cell_at (j := 0) kZ rfl
  have z1 := cell_at (j := 1) kZ rfl
  have z2 := cell_at (j := 2) kZ rfl
  have z3 := cell_at (j := 3) kZ rfl
  have zf := froz_at kZ
  clear kT kA kZ
  unfold PT at HP ⊢
  go_enter Tryz.func6, Tryz.ntmps6
  go_upto_region 1 with fail
  rw [← hV]
  clear hV
  go_upto_block 0 with fail
  rw [show (wrap64 (a.kd.tmod 9 + 9)).tmod 9 = kq a from rfl, hk]
  clear hk
  have hm' : decide ((64 : Int) < (a.k.2.size : Int)) = false := by simp; omega
  go_upto_region 18 with (go_at_call 16; refine HP.out.mono ?_; rintro e w1 ⟨rfl, F1, q1, t1⟩; obtain ⟨kT, kA, kZ⟩ := HKc.out; replace kT := t1.keep kT (fun e => by have := HFl.out _ e; omega); replace kA := t1.keep kA (fun e => by have := HFl.out _ e; omega); replace kZ := t1.keep kZ (fun e => by have := HFl.out _ e; omega); clear HKc a0 a1 a2 a3 af y0 y1 y2 y3 y4 y5 y6 y7 y8 y9 yf z0 z1 z2 z3 zf; have HKc := hid (And.intro kT (And.intro kA kZ)); have a0 := cell_at (j := 0) kT rfl; have a1 := cell_at (j := 1) kT rfl; have a2 := cell_at (j := 2) kT rfl; have a3 := cell_at (j := 3) kT rfl; have af := froz_at kT; have y0 := cell_at (j := 0) kA rfl; have y1 := cell_at (j := 1) kA rfl; have y2 := cell_at (j := 2) kA rfl; have y3 := cell_at (j := 3) kA rfl; have y4 := cell_at (j := 4) kA rfl; have y5 := cell_at (j := 5) kA rfl; have y6 := cell_at (j := 6) kA rfl; have y7 := cell_at (j := 7) kA rfl; have y8 := cell_at (j := 8) kA rfl; have y9 := cell_at (j := 9) kA rfl; have yf := froz_at kA; have z0 := cell_at (j := 0) kZ rfl; have z1 := cell_at (j := 1) kZ rfl; have z2 := cell_at (j := 2) kZ rfl; have z3 := cell_at (j := 3) kZ rfl; have zf := froz_at kZ; clear kT kA kZ; have HBv := hid q1; clear q1 t1)
  clear HP
  have U0 : ∀ w', Touch [] w1 w' → w'.cell? ⟨w.heap.size, 0, none⟩ = some (.int .i64 fl) := fun w' X => cell_at (X.keep HKc.out.1 (by simp)) rfl
  have U1 : ∀ w', Touch [] w1 w' → w'.cell? ⟨w.heap.size, 1, none⟩ = some (.int .i64 bg) := fun w' X => cell_at (X.keep HKc.out.1 (by simp)) rfl
  have U2 : ∀ w', Touch [] w1 w' → w'.cell? ⟨w.heap.size, 2, none⟩ = some (.slice la n lc) := fun w' X => cell_at (X.keep HKc.out.1 (by simp)) rfl
  have U3 : ∀ w', Touch [] w1 w' → w'.cell? ⟨w.heap.size, 3, none⟩ = some (.slice ga gn gc) := fun w' X => cell_at (X.keep HKc.out.1 (by simp)) rfl
  have G4 : ∀ w', Touch [] w1 w' → w'.cell? ⟨w.heap.size + 1, 4, none⟩ = some (.int .u16 a.k.1) := fun w' X => cell_at (X.keep HKc.out.2.1 (by simp)) rfl
  have G5 : ∀ w', Touch [] w1 w' → w'.cell? ⟨w.heap.size + 1, 5, none⟩ = some (.string a.k.2) := fun w' X => cell_at (X.keep HKc.out.2.1 (by simp)) rfl
  have k0 : Touch [] w1 w1.drew := (Touch.refl _ _).drew
  have zW : w.heap.size + 3 ≤ w1.heap.size := by have := block_lt HKc.out.2.2; omega
  have HVs : Hid (V.heap.size ≤ w1.heap.size) := hid (by have := HSz.out; omega)
  clear a0 a1 a2 a3 af y0 y1 y2 y3 y4 y5 y6 y7 y8 y9 yf z0 z1 z2 z3 zf
  refine wp_region_H (S := fun w' => Touch [] w1 w') (by kernel_rfl) ?_
  refine wpH_take (i := 0) (v := (.agg #[.int .i64 fl, .int .i64 bg, .slice la n lc, .slice ga gn gc])) (some 149) rfl rfl (by kernel_rfl) (by kernel_rfl) (by kernel_rfl) (fun _ _ _ h => h) (Or.inl ⟨by rfl, fun w' hS => (by have z0 := U0 _ hS; have z1 := U1 _ hS; have z2 := U2 _ hS; have z3 := U3 _ hS; go_simp)⟩) k0 ?_
  try simp only [Go.Act.put, List.setIfInBounds_toArray, List.set_cons_zero, List.set_cons_succ]
  refine wpH_take (i := 1) (v := (.pointer (some ⟨w.heap.size + 1, 4, none⟩))) (some 150) rfl rfl (by kernel_rfl) (by kernel_rfl) (by kernel_rfl) (fun _ _ _ h => h) (Or.inl ⟨by rfl, fun w' hS => (by go_simp)⟩) k0 ?_
  try simp only [Go.Act.put, List.setIfInBounds_toArray, List.set_cons_zero, List.set_cons_succ]
  refine wpH_take (i := 2) (v := (.agg #[.int .u16 a.k.1, .string a.k.2])) (some 151) rfl rfl (by kernel_rfl) (by kernel_rfl) (by kernel_rfl) (fun _ _ _ h => h) (Or.inl ⟨by rfl, fun w' hS => (by have z0 := G4 _ hS; have z1 := G5 _ hS; go_simp)⟩) k0 ?_
  try simp only [Go.Act.put, List.setIfInBounds_toArray, List.set_cons_zero, List.set_cons_succ]
  refine wpH_ready (rs := [3, 9]) (by kernel_rfl) (by simp) ?_
  refine AllH.cons (o := { dst := some 152, op := Op.call { callee := Callee.value (Operand.func 18), args := #[Operand.tmp 151], argTypes := #[34] }, type := 68, pos := _, after := #[{ on := 2, ground := Ground.data }], guard := none }) rfl (fun K' hK => ?_) ?_
  · rw [if_pos (by rfl)]
    go_simp
    refine (HLk.out _).mono ?_
    rintro e' wk ⟨rfl, tk⟩
    have kK : Touch [] w1 wk := k0.trans' tk
    refine hK.out _ _ kK ?_
    clear hK
    try simp only [Go.Act.put, List.setIfInBounds_toArray, List.set_cons_zero, List.set_cons_succ]
    refine wpH_ready (rs := [4, 9]) (by kernel_rfl) (by simp) ?_
    refine AllH.cons (o := { dst := some 153, op := Op.call { callee := Callee.value (Operand.func 17), args := #[Operand.tmp 149, Operand.tmp 152], argTypes := #[31, 68] }, type := 66, pos := _, after := #[{ on := 0, ground := Ground.data }, { on := 3, ground := Ground.data }, { on := 3, ground := Ground.chain }], guard := none }) rfl (fun K' hK => ?_) ?_
    · rw [if_pos (by rfl)]
      go_simp
      refine (HD.out _ _ (HBv.out.then0 kK) (Nat.le_trans HVs.out kK.size)).mono ?_
      rintro e' w5 ⟨b5, m5, d5, ds5, gs5, rfl, ⟨b5v, hl5, fr5⟩, t5⟩
      have kO : Touch [] w1 w5 := kK.trans' t5
      refine hK.out _ _ kO ?_
      clear hK
      try simp only [Go.Act.put, List.setIfInBounds_toArray, List.set_cons_zero, List.set_cons_succ]
      refine wpH_take (i := 5) (v := (.tuple #[(.agg #[.int .i64 fl, .int .i64 bg, .slice la n lc, .slice b5 m5 d5]), (.int .i64 gN), (.int .i64 gR)])) (some 148) rfl rfl (by kernel_rfl) (by kernel_rfl) (by kernel_rfl) (fun _ _ _ h => h) (Or.inl ⟨by rfl, fun w' hS => (by go_simp)⟩) kO ?_
      try simp only [Go.Act.put, List.setIfInBounds_toArray, List.set_cons_zero, List.set_cons_succ]
      refine wpH_take (i := 6) (v := (.agg #[.int .i64 fl, .int .i64 bg, .slice la n lc, .slice b5 m5 d5])) (some 154) rfl rfl (by kernel_rfl) (by kernel_rfl) (by kernel_rfl) (fun _ _ _ h => h) (Or.inl ⟨by rfl, fun w' hS => (by go_simp)⟩) kO ?_
      try simp only [Go.Act.put, List.setIfInBounds_toArray, List.set_cons_zero, List.set_cons_succ]
      refine wpH_take (i := 7) (v := (.int .i64 gN)) (some 155) rfl rfl (by kernel_rfl) (by kernel_rfl) (by kernel_rfl) (fun _ _ _ h => h) (Or.inl ⟨by rfl, fun w' hS => (by go_simp)⟩) kO ?_
      try simp only [Go.Act.put, List.setIfInBounds_toArray, List.set_cons_zero, List.set_cons_succ]
      refine wpH_take (i := 8) (v := (.int .i64 gR)) (some 156) rfl rfl (by kernel_rfl) (by kernel_rfl) (by kernel_rfl) (fun _ _ _ h => h) (Or.inl ⟨by rfl, fun w' hS => (by go_simp)⟩) kO ?_
      try simp only [Go.Act.put, List.setIfInBounds_toArray, List.set_cons_zero, List.set_cons_succ]
      refine wpH_call (i := 9) (o := { dst := some 25, op := Op.alloc 31, type := 0, pos := _, after := #[], guard := none }) (by kernel_rfl) rfl (fun K' hK => ?_)
      rw [if_pos (by rfl)]
      go_simp
      have kA : Touch [] w1 (w5.alloc (.cells #[.int .i64 0, .int .i64 0, .slice none 0 0, .slice none 0 0] 31)) := kO.alloc _
      have kE : (w5.alloc (.cells #[.int .i64 0, .int .i64 0, .slice none 0 0, .slice none 0 0] 31)).heap[w5.heap.size]? = some (.cells #[.int .i64 0, .int .i64 0, .slice none 0 0, .slice none 0 0] 31 (0, 0)) := heap_alloc_new w5 _
      have zE : w1.heap.size ≤ w5.heap.size := kO.size
      refine hK.out _ _ kA ?_
      clear hK
      try simp only [Go.Act.put, List.setIfInBounds_toArray, List.set_cons_zero, List.set_cons_succ]
      refine wpH_call (i := 10) (o := { dst := none, op := Op.store 31 (Operand.tmp 25) (Operand.tmp 154), type := 0, pos := _, after := #[{ on := 9, ground := Ground.data }, { on := 6, ground := Ground.data }, { on := 4, ground := Ground.chain }, { on := 0, ground := Ground.phase }, { on := 1, ground := Ground.phase }, { on := 2, ground := Ground.phase }, { on := 3, ground := Ground.phase }, { on := 4, ground := Ground.phase }, { on := 5, ground := Ground.phase }, { on := 6, ground := Ground.phase }, { on := 7, ground := Ground.textOnly Departure.lateStores }, { on := 8, ground := Ground.textOnly Departure.lateStores }, { on := 9, ground := Ground.phase }], guard := none }) (by kernel_rfl) rfl (fun K' hK => ?_)
      rw [if_pos (by rfl)]
      have e0 := cell_at (j := 0) kE rfl
      have e1 := cell_at (j := 1) kE rfl
      have e2 := cell_at (j := 2) kE rfl
      have e3 := cell_at (j := 3) kE rfl
      have ef := froz_at kE
      go_simp
      have kS : Touch [] w1 (w5.alloc (.cells #[.int .i64 fl, .int .i64 bg, .slice la n lc, .slice b5 m5 d5] 31)) := kO.alloc _
      have q8 : (w5.alloc (.cells #[.int .i64 fl, .int .i64 bg, .slice la n lc, .slice b5 m5 d5] 31)).heap[w5.heap.size]? = some (.cells #[.int .i64 fl, .int .i64 bg, .slice la n lc, .slice b5 m5 d5] 31 (0, 0)) := heap_alloc_new w5 _
      have HB5 := hid (b5v.then0 ((Touch.refl _ _).alloc (.cells #[.int .i64 fl, .int .i64 bg, .slice la n lc, .slice b5 m5 d5] 31)))
      refine hK.out _ _ kS ?_
      clear hK
      try simp only [Go.Act.put, List.setIfInBounds_toArray, List.set_cons_zero, List.set_cons_succ]
      refine wpH_take (i := 11) (v := (.int .i64 gN)) (some 26) rfl rfl (by kernel_rfl) (by kernel_rfl) (by kernel_rfl) (fun _ _ _ h => h) (Or.inl ⟨by rfl, fun w' hS => (by go_simp)⟩) kS ?_
      try simp only [Go.Act.put, List.setIfInBounds_toArray, List.set_cons_zero, List.set_cons_succ]
      refine wpH_take (i := 12) (v := (.int .i64 gR)) (some 27) rfl rfl (by kernel_rfl) (by kernel_rfl) (by kernel_rfl) (fun _ _ _ h => h) (Or.inl ⟨by rfl, fun w' hS => (by go_simp)⟩) kS ?_
      try simp only [Go.Act.put, List.setIfInBounds_toArray, List.set_cons_zero, List.set_cons_succ]
      refine wpAnyH_done (by kernel_rfl) ?_ _
      clear e0 e1 e2 e3 ef k0 U0 U1 U2 U3 G4 G5
      have kz := kS.keep HKc.out.2.2 (by simp)
      have zb : ¬ w.heap.size + 1 + 1 = w5.heap.size := by omega
      generalize w5.heap.size = tb at *
      have u0 := cell_at (j := 0) q8 rfl
      have u1 := cell_at (j := 1) q8 rfl
      have u2 := cell_at (j := 2) q8 rfl
      have u3 := cell_at (j := 3) q8 rfl
      have uf := froz_at q8
      have z0 := cell_at (j := 0) kz rfl
      have z1 := cell_at (j := 1) kz rfl
      have z2 := cell_at (j := 2) kz rfl
      have z3 := cell_at (j := 3) kz rfl
      have zf := froz_at kz
      go_wp2
      obtain ⟨q4, tG⟩ := finZ kz (.int .i64 fl) (.int .i64 bg) (.slice la n lc) (.slice b5 m5 d5)
      have q0 := cell_at (j := 0) q4 rfl
      have q1 := cell_at (j := 1) q4 rfl
      have q2 := cell_at (j := 2) q4 rfl
      have q3 := cell_at (j := 3) q4 rfl
      exact bodyPost_ret (v := .tuple #[.agg #[.int .i64 fl, .int .i64 bg, .slice la n lc, .slice b5 m5 d5], .bool true]) (by simp [results, Tryz.results6, go_sem, q0, q1, q2, q3]) rfl (HE.out _ _ _ _ _ _ _ (HB5.out.box tG (by omega) (by have := HSz.out; omega)) hl5)
    refine AllH.cons (o := { dst := some 25, op := Op.alloc 31, type := 0, pos := _, after := #[], guard := none }) rfl (fun K' hK => ?_) ?_
    · rw [if_pos (by rfl)]
      go_simp
      have kA : Touch [] w1 (wk.alloc (.cells #[.int .i64 0, .int .i64 0, .slice none 0 0, .slice none 0 0] 31)) := kK.alloc _
      have kE : (wk.alloc (.cells #[.int .i64 0, .int .i64 0, .slice none 0 0, .slice none 0 0] 31)).heap[wk.heap.size]? = some (.cells #[.int .i64 0, .int .i64 0, .slice none 0 0, .slice none 0 0] 31 (0, 0)) := heap_alloc_new wk _
      have zE : w1.heap.size ≤ wk.heap.size := kK.size
      refine hK.out _ _ kA ?_
      clear hK
      try simp only [Go.Act.put, List.setIfInBounds_toArray, List.set_cons_zero, List.set_cons_succ]
      refine wpH_call (i := 4) (o := { dst := some 153, op := Op.call { callee := Callee.value (Operand.func 17), args := #[Operand.tmp 149, Operand.tmp 152], argTypes := #[31, 68] }, type := 66, pos := _, after := #[{ on := 0, ground := Ground.data }, { on := 3, ground := Ground.data }, { on := 3, ground := Ground.chain }], guard := none }) (by kernel_rfl) rfl (fun K' hK => ?_)
      rw [if_pos (by rfl)]
      go_simp
      refine (HD.out _ _ (HBv.out.then0 kA) (Nat.le_trans HVs.out kA.size)).mono ?_
      rintro e' w5 ⟨b5, m5, d5, ds5, gs5, rfl, ⟨b5v, hl5, fr5⟩, t5⟩
      have kO : Touch [] w1 w5 := kA.trans' t5
      have nb := fr5 _ (block_lt kE) (HBv.out.fresh zE).2
      replace kE := t5.keep kE (by simp)
      refine hK.out _ _ kO ?_
      clear hK
      try simp only [Go.Act.put, List.setIfInBounds_toArray, List.set_cons_zero, List.set_cons_succ]
      refine wpH_take (i := 5) (v := (.tuple #[(.agg #[.int .i64 fl, .int .i64 bg, .slice la n lc, .slice b5 m5 d5]), (.int .i64 gN), (.int .i64 gR)])) (some 148) rfl rfl (by kernel_rfl) (by kernel_rfl) (by kernel_rfl) (fun _ _ _ h => h) (Or.inl ⟨by rfl, fun w' hS => (by go_simp)⟩) kO ?_
      try simp only [Go.Act.put, List.setIfInBounds_toArray, List.set_cons_zero, List.set_cons_succ]
      refine wpH_take (i := 6) (v := (.agg #[.int .i64 fl, .int .i64 bg, .slice la n lc, .slice b5 m5 d5])) (some 154) rfl rfl (by kernel_rfl) (by kernel_rfl) (by kernel_rfl) (fun _ _ _ h => h) (Or.inl ⟨by rfl, fun w' hS => (by go_simp)⟩) kO ?_
      try simp only [Go.Act.put, List.setIfInBounds_toArray, List.set_cons_zero, List.set_cons_succ]
      refine wpH_take (i := 7) (v := (.int .i64 gN)) (some 155) rfl rfl (by kernel_rfl) (by kernel_rfl) (by kernel_rfl) (fun _ _ _ h => h) (Or.inl ⟨by rfl, fun w' hS => (by go_simp)⟩) kO ?_
      try simp only [Go.Act.put, List.setIfInBounds_toArray, List.set_cons_zero, List.set_cons_succ]
      refine wpH_take (i := 8) (v := (.int .i64 gR)) (some 156) rfl rfl (by kernel_rfl) (by kernel_rfl) (by kernel_rfl) (fun _ _ _ h => h) (Or.inl ⟨by rfl, fun w' hS => (by go_simp)⟩) kO ?_
      try simp only [Go.Act.put, List.setIfInBounds_toArray, List.set_cons_zero, List.set_cons_succ]
      refine wpH_call (i := 10) (o := { dst := none, op := Op.store 31 (Operand.tmp 25) (Operand.tmp 154), type := 0, pos := _, after := #[{ on := 9, ground := Ground.data }, { on := 6, ground := Ground.data }, { on := 4, ground := Ground.chain }, { on := 0, ground := Ground.phase }, { on := 1, ground := Ground.phase }, { on := 2, ground := Ground.phase }, { on := 3, ground := Ground.phase }, { on := 4, ground := Ground.phase }, { on := 5, ground := Ground.phase }, { on := 6, ground := Ground.phase }, { on := 7, ground := Ground.textOnly Departure.lateStores }, { on := 8, ground := Ground.textOnly Departure.lateStores }, { on := 9, ground := Ground.phase }], guard := none }) (by kernel_rfl) rfl (fun K' hK => ?_)
      rw [if_pos (by rfl)]
      have e0 := cell_at (j := 0) kE rfl
      have e1 := cell_at (j := 1) kE rfl
      have e2 := cell_at (j := 2) kE rfl
      have e3 := cell_at (j := 3) kE rfl
      have ef := froz_at kE
      go_simp
      obtain ⟨q8, tF⟩ := finZ kE (.int .i64 fl) (.int .i64 bg) (.slice la n lc) (.slice b5 m5 d5)
      have kS := kO.trans tF (fun b hb => Or.inr (by simp at hb; omega))
      have HB5 := hid (b5v.far tF (by omega) (HBv.out.fresh zE).1 nb)
      refine hK.out _ _ kS ?_
      clear hK
      try simp only [Go.Act.put, List.setIfInBounds_toArray, List.set_cons_zero, List.set_cons_succ]
      refine wpH_take (i := 11) (v := (.int .i64 gN)) (some 26) rfl rfl (by kernel_rfl) (by kernel_rfl) (by kernel_rfl) (fun _ _ _ h => h) (Or.inl ⟨by rfl, fun w' hS => (by go_simp)⟩) kS ?_
      try simp only [Go.Act.put, List.setIfInBounds_toArray, List.set_cons_zero, List.set_cons_succ]
      refine wpH_take (i := 12) (v := (.int .i64 gR)) (some 27) rfl rfl (by kernel_rfl) (by kernel_rfl) (by kernel_rfl) (fun _ _ _ h => h) (Or.inl ⟨by rfl, fun w' hS => (by go_simp)⟩) kS ?_
      try simp only [Go.Act.put, List.setIfInBounds_toArray, List.set_cons_zero, List.set_cons_succ]
      refine wpAnyH_done (by kernel_rfl) ?_ _
      clear e0 e1 e2 e3 ef k0 U0 U1 U2 U3 G4 G5
      have kz := kS.keep HKc.out.2.2 (by simp)
      have zb : ¬ w.heap.size + 1 + 1 = wk.heap.size := by omega
      generalize wk.heap.size = tb at *
      have u0 := cell_at (j := 0) q8 rfl
      have u1 := cell_at (j := 1) q8 rfl
      have u2 := cell_at (j := 2) q8 rfl
      have u3 := cell_at (j := 3) q8 rfl
      have uf := froz_at q8
      have z0 := cell_at (j := 0) kz rfl
      have z1 := cell_at (j := 1) kz rfl
      have z2 := cell_at (j := 2) kz rfl
      have z3 := cell_at (j := 3) kz rfl
      have zf := froz_at kz
      go_wp2
      obtain ⟨q4, tG⟩ := finZ kz (.int .i64 fl) (.int .i64 bg) (.slice la n lc) (.slice b5 m5 d5)
      have q0 := cell_at (j := 0) q4 rfl
      have q1 := cell_at (j := 1) q4 rfl
      have q2 := cell_at (j := 2) q4 rfl
      have q3 := cell_at (j := 3) q4 rfl
      exact bodyPost_ret (v := .tuple #[.agg #[.int .i64 fl, .int .i64 bg, .slice la n lc, .slice b5 m5 d5], .bool true]) (by simp [results, Tryz.results6, go_sem, q0, q1, q2, q3]) rfl (HE.out _ _ _ _ _ _ _ (HB5.out.box tG (by omega) (by have := HSz.out; omega)) hl5)
    exact AllH.nil
  refine AllH.cons (o := { dst := some 25, op := Op.alloc 31, type := 0, pos := _, after := #[], guard := none }) rfl (fun K' hK => ?_) ?_
  · rw [if_pos (by rfl)]
    go_simp
    have kA : Touch [] w1 (w1.drew.alloc (.cells #[.int .i64 0, .int .i64 0, .slice none 0 0, .slice none 0 0] 31)) := k0.alloc _
    have kE : (w1.drew.alloc (.cells #[.int .i64 0, .int .i64 0, .slice none 0 0, .slice none 0 0] 31)).heap[w1.heap.size]? = some (.cells #[.int .i64 0, .int .i64 0, .slice none 0 0, .slice none 0 0] 31 (0, 0)) := heap_alloc_new w1.drew _
    have zE : w1.heap.size ≤ w1.heap.size := k0.size
    refine hK.out _ _ kA ?_
    clear hK
    try simp only [Go.Act.put, List.setIfInBounds_toArray, List.set_cons_zero, List.set_cons_succ]
    refine wpH_call (i := 3) (o := { dst := some 152, op := Op.call { callee := Callee.value (Operand.func 18), args := #[Operand.tmp 151], argTypes := #[34] }, type := 68, pos := _, after := #[{ on := 2, ground := Ground.data }], guard := none }) (by kernel_rfl) rfl (fun K' hK => ?_)
    rw [if_pos (by rfl)]
    go_simp
    refine (HLk.out _).mono ?_
    rintro e' wk ⟨rfl, tk⟩
    have kK : Touch [] w1 wk := kA.trans' tk
    replace kE := tk.keep kE (by simp)
    refine hK.out _ _ kK ?_
    clear hK
    try simp only [Go.Act.put, List.setIfInBounds_toArray, List.set_cons_zero, List.set_cons_succ]
    refine wpH_call (i := 4) (o := { dst := some 153, op := Op.call { callee := Callee.value (Operand.func 17), args := #[Operand.tmp 149, Operand.tmp 152], argTypes := #[31, 68] }, type := 66, pos := _, after := #[{ on := 0, ground := Ground.data }, { on := 3, ground := Ground.data }, { on := 3, ground := Ground.chain }], guard := none }) (by kernel_rfl) rfl (fun K' hK => ?_)
    rw [if_pos (by rfl)]
    go_simp
    refine (HD.out _ _ (HBv.out.then0 kK) (Nat.le_trans HVs.out kK.size)).mono ?_
    rintro e' w5 ⟨b5, m5, d5, ds5, gs5, rfl, ⟨b5v, hl5, fr5⟩, t5⟩
    have kO : Touch [] w1 w5 := kK.trans' t5
    have nb := fr5 _ (block_lt kE) (HBv.out.fresh zE).2
    replace kE := t5.keep kE (by simp)
    refine hK.out _ _ kO ?_
    clear hK
    try simp only [Go.Act.put, List.setIfInBounds_toArray, List.set_cons_zero, List.set_cons_succ]
    refine wpH_take (i := 5) (v := (.tuple #[(.agg #[.int .i64 fl, .int .i64 bg, .slice la n lc, .slice b5 m5 d5]), (.int .i64 gN), (.int .i64 gR)])) (some 148) rfl rfl (by kernel_rfl) (by kernel_rfl) (by kernel_rfl) (fun _ _ _ h => h) (Or.inl ⟨by rfl, fun w' hS => (by go_simp)⟩) kO ?_
    try simp only [Go.Act.put, List.setIfInBounds_toArray, List.set_cons_zero, List.set_cons_succ]
    refine wpH_take (i := 6) (v := (.agg #[.int .i64 fl, .int .i64 bg, .slice la n lc, .slice b5 m5 d5])) (some 154) rfl rfl (by kernel_rfl) (by kernel_rfl) (by kernel_rfl) (fun _ _ _ h => h) (Or.inl ⟨by rfl, fun w' hS => (by go_simp)⟩) kO ?_
    try simp only [Go.Act.put, List.setIfInBounds_toArray, List.set_cons_zero, List.set_cons_succ]
    refine wpH_take (i := 7) (v := (.int .i64 gN)) (some 155) rfl rfl (by kernel_rfl) (by kernel_rfl) (by kernel_rfl) (fun _ _ _ h => h) (Or.inl ⟨by rfl, fun w' hS => (by go_simp)⟩) kO ?_
    try simp only [Go.Act.put, List.setIfInBounds_toArray, List.set_cons_zero, List.set_cons_succ]
    refine wpH_take (i := 8) (v := (.int .i64 gR)) (some 156) rfl rfl (by kernel_rfl) (by kernel_rfl) (by kernel_rfl) (fun _ _ _ h => h) (Or.inl ⟨by rfl, fun w' hS => (by go_simp)⟩) kO ?_
    try simp only [Go.Act.put, List.setIfInBounds_toArray, List.set_cons_zero, List.set_cons_succ]
    refine wpH_call (i := 10) (o := { dst := none, op := Op.store 31 (Operand.tmp 25) (Operand.tmp 154), type := 0, pos := _, after := #[{ on := 9, ground := Ground.data }, { on := 6, ground := Ground.data }, { on := 4, ground := Ground.chain }, { on := 0, ground := Ground.phase }, { on := 1, ground := Ground.phase }, { on := 2, ground := Ground.phase }, { on := 3, ground := Ground.phase }, { on := 4, ground := Ground.phase }, { on := 5, ground := Ground.phase }, { on := 6, ground := Ground.phase }, { on := 7, ground := Ground.textOnly Departure.lateStores }, { on := 8, ground := Ground.textOnly Departure.lateStores }, { on := 9, ground := Ground.phase }], guard := none }) (by kernel_rfl) rfl (fun K' hK => ?_)
    rw [if_pos (by rfl)]
    have e0 := cell_at (j := 0) kE rfl
    have e1 := cell_at (j := 1) kE rfl
    have e2 := cell_at (j := 2) kE rfl
    have e3 := cell_at (j := 3) kE rfl
    have ef := froz_at kE
    go_simp
    obtain ⟨q8, tF⟩ := finZ kE (.int .i64 fl) (.int .i64 bg) (.slice la n lc) (.slice b5 m5 d5)
    have kS := kO.trans tF (fun b hb => Or.inr (by simp at hb; omega))
    have HB5 := hid (b5v.far tF (by omega) (HBv.out.fresh zE).1 nb)
    refine hK.out _ _ kS ?_
    clear hK
    try simp only [Go.Act.put, List.setIfInBounds_toArray, List.set_cons_zero, List.set_cons_succ]
    refine wpH_take (i := 11) (v := (.int .i64 gN)) (some 26) rfl rfl (by kernel_rfl) (by kernel_rfl) (by kernel_rfl) (fun _ _ _ h => h) (Or.inl ⟨by rfl, fun w' hS => (by go_simp)⟩) kS ?_
    try simp only [Go.Act.put, List.setIfInBounds_toArray, List.set_cons_zero, List.set_cons_succ]
    refine wpH_take (i := 12) (v := (.int .i64 gR)) (some 27) rfl rfl (by kernel_rfl) (by kernel_rfl) (by kernel_rfl) (fun _ _ _ h => h) (Or.inl ⟨by rfl, fun w' hS => (by go_simp)⟩) kS ?_
    try simp only [Go.Act.put, List.setIfInBounds_toArray, List.set_cons_zero, List.set_cons_succ]
    refine wpAnyH_done (by kernel_rfl) ?_ _
    clear e0 e1 e2 e3 ef k0 U0 U1 U2 U3 G4 G5
    have kz := kS.keep HKc.out.2.2 (by simp)
    have zb : ¬ w.heap.size + 1 + 1 = w1.heap.size := by omega
    generalize w1.heap.size = tb at *
    have u0 := cell_at (j := 0) q8 rfl
    have u1 := cell_at (j := 1) q8 rfl
    have u2 := cell_at (j := 2) q8 rfl
    have u3 := cell_at (j := 3) q8 rfl
    have uf := froz_at q8
    have z0 := cell_at (j := 0) kz rfl
    have z1 := cell_at (j := 1) kz rfl
    have z2 := cell_at (j := 2) kz rfl
    have z3 := cell_at (j := 3) kz rfl
    have zf := froz_at kz
    go_wp2
    obtain ⟨q4, tG⟩ := finZ kz (.int .i64 fl) (.int .i64 bg) (.slice la n lc) (.slice b5 m5 d5)
    have q0 := cell_at (j := 0) q4 rfl
    have q1 := cell_at (j := 1) q4 rfl
    have q2 := cell_at (j := 2) q4 rfl
    have q3 := cell_at (j := 3) q4 rfl
    exact bodyPost_ret (v := .tuple #[.agg #[.int .i64 fl, .int .i64 bg, .slice la n lc, .slice b5 m5 d5], .bool true]) (by simp [results, Tryz.results6, go_sem, q0, q1, q2, q3]) rfl (HE.out _ _ _ _ _ _ _ (HB5.out.box tG (by omega) (by have := HSz.out; omega)) hl5)
  exact AllH.nil
set_option maxHeartbeats 4000000 in
set_option maxRecDepth 100000 in
theorem act_forF (w : World) (t : Nat) (F : List Nat) (lv gv : Value) (ds : List De) (gs : List (K × Int)) (T : Tb) (N : Nat) (a : ActT) (hw : WfA a) (h : Bo w t F lv gv ds gs T N) (hN1 : N + 1 ≤ 1700000000000) (hk : kq a = 6) (hm : ¬ a.k.2.size ≤ 64) :
    Calls Tryz.prog 6 #[PT t, tv T lv gv, av a] w fun e w' => actP w t F lv gv ds T (N + 1) e w' := by
  obtain ⟨la, lc, ga, gc, rfl, rfl⟩ := h.dt.form
  obtain ⟨n, hn⟩ : ∃ n, n = ds.length := ⟨_, rfl⟩
  obtain ⟨gn, hgn⟩ : ∃ gn, gn = gs.length := ⟨_, rfl⟩
  have HB : Hid (Bo w t F (.slice la n lc) (.slice ga gn gc) ds gs T N) := hid (by rw [hn, hgn]; exact h)
  have hnl := HB.out.dg.len
  have hFl := HB.out.tq.lt
  obtain ⟨V, hV⟩ : ∃ V, V = ((w.alloc (.cells #[.int .i64 T.fl, .int .i64 T.bg, .slice la n lc, .slice ga gn gc] 31)).alloc (.cells #[.int .i64 a.kd, .int .i64 a.rn, .int .i64 a.cl, .bool a.rf, .int .u16 a.k.1, .string a.k.2, .int .i64 a.o.1, .int .i64 a.o.2.1, .int .i64 a.o.2.2.1, .int .i64 a.o.2.2.2] 40)).alloc (.cells #[.int .i64 0, .int .i64 0, .slice none 0 0, .slice none 0 0] 31) := ⟨_, rfl⟩
  have T0 : Touch [] w V := by rw [hV]; exact (((Touch.refl _ _).alloc _).alloc _).alloc _
  have HTc : Hid (Touch F w V) := T0.mono (fun _ e => by cases e)
  have HV0 := hid T0
  have kT : V.heap[w.heap.size]? = some (.cells #[.int .i64 T.fl, .int .i64 T.bg, .slice la n lc, .slice ga gn gc] 31 (0, 0)) := by rw [hV]; exact (Below.heap_alloc _ _ _ (by simp; omega)).trans ((Below.heap_alloc _ _ _ (by simp)).trans (heap_alloc_new w _))
  have kA : V.heap[w.heap.size + 1]? = some (.cells #[.int .i64 a.kd, .int .i64 a.rn, .int .i64 a.cl, .bool a.rf, .int .u16 a.k.1, .string a.k.2, .int .i64 a.o.1, .int .i64 a.o.2.1, .int .i64 a.o.2.2.1, .int .i64 a.o.2.2.2] 40 (0, 0)) := by
    rw [hV]
    have := heap_alloc_new (w.alloc (.cells #[.int .i64 T.fl, .int .i64 T.bg, .slice la n lc, .slice ga gn gc] 31)) (.cells #[.int .i64 a.kd, .int .i64 a.rn, .int .i64 a.cl, .bool a.rf, .int .u16 a.k.1, .string a.k.2, .int .i64 a.o.1, .int .i64 a.o.2.1, .int .i64 a.o.2.2.1, .int .i64 a.o.2.2.2] 40)
    rw [World.size_alloc] at this
    exact (Below.heap_alloc _ _ _ (by simp)).trans this
  have kZ : V.heap[w.heap.size + 1 + 1]? = some (.cells #[.int .i64 0, .int .i64 0, .slice none 0 0, .slice none 0 0] 31 (0, 0)) := by
    rw [hV]
    have := heap_alloc_new ((w.alloc (.cells #[.int .i64 T.fl, .int .i64 T.bg, .slice la n lc, .slice ga gn gc] 31)).alloc (.cells #[.int .i64 a.kd, .int .i64 a.rn, .int .i64 a.cl, .bool a.rf, .int .u16 a.k.1, .string a.k.2, .int .i64 a.o.1, .int .i64 a.o.2.1, .int .i64 a.o.2.2.1, .int .i64 a.o.2.2.2] 40)) (.cells #[.int .i64 0, .int .i64 0, .slice none 0 0, .slice none 0 0] 31)
    rwa [World.size_alloc, World.size_alloc] at this
  have HN := hid hn
  have HFl := hid hFl
  have zn : (n : Int) ≤ 4096 := by omega
  unfold tv av
  rw [← hn, ← hgn]
  obtain ⟨Q, hQ⟩ : ∃ Q : Ending → World → Prop, Q = fun e w' => actP w t F (.slice la n lc) (.slice ga gn gc) ds T (N + 1) e w' := ⟨_, rfl⟩
  have HQ : Hid (∀ e w', actP w t F (.slice la n lc) (.slice ga gn gc) ds T (N + 1) e w' → Q e w') := hid (by rw [hQ]; exact fun e w' hh => hh)
  rw [← hQ]
  have HSz : Hid (V.heap.size = w.heap.size + 3) := hid (by rw [hV]; simp)
  have HBv := hid (HB.out.init T0)
  clear hQ h hFl
  have hmk : mayK a.k = false := by simp only [mayK, hm, decide_false]
  have HP : Hid (Calls Tryz.prog 16 #[PT t, .agg #[.int .u16 a.k.1, .string a.k.2]] V fun e w1 => e = .returned (.tuple #[.int .i64 0, .int .i64 0, .int .i64 20]) ∧ ∃ F', BoV w V w1 t F (.slice la n lc) (.slice ga gn gc) ds (.slice la n lc) (.slice ga gn gc) ds gs T T (N + 1) F' ∧ Touch F V w1) := by
    refine (forgetT V t F T N (HB.out.tq.keep0 T0) (by omega) a.k hw.2.2.2.1).mono ?_
    rintro e w1 ⟨rfl, q⟩
    simp only [tFor, tForN, tForR, tForE, hmk] at q ⊢
    have tq := q.choose_spec.2.1
    obtain ⟨F', b⟩ := (HB.out.init T0).prog (Nat.le_refl _) q
    exact ⟨rfl, F', b, tq⟩
  have HE : Hid (∀ w' F', BoV w V w' t F (.slice la n lc) (.slice ga gn gc) ds (.slice la n lc) (.slice ga gn gc) ds gs T T (N + 1) F' → Q (.returned (.tuple #[.agg #[.int .i64 T.fl, .int .i64 T.bg, .slice la n lc, .slice ga gn gc], .bool true])) w') := fun w' F' X => HQ.out _ _ ⟨.slice la n lc, .slice ga gn gc, gs, rfl, X.fin (by have := HB.out.gl; omega) hN1⟩
  clear HB HQ hn hgn T0 hw
  generalize T.fl = fl at *
  generalize T.bg = bg at *
  have HKc := hid (And.intro kT (And.intro kA kZ))
  have a0 := cell_at (j := 0) kT rfl
  have a1 := cell_at (j := 1) kT rfl
  have a2 := cell_at (j := 2) kT rfl
  have a3 := cell_at (j := 3) kT rfl
  have af := froz_at kT
  have y0 := cell_at (j := 0) kA rfl
  have y1 := cell_at (j := 1) kA rfl
  have y2 := cell_at (j := 2) kA rfl
  have y3 := cell_at (j := 3) kA rfl
  have y4 := cell_at (j := 4) kA rfl
  have y5 := cell_at (j := 5) kA rfl
  have y6 := cell_at (j := 6) kA rfl
  have y7 := cell_at (j := 7) kA rfl
  have y8 := cell_at (j := 8) kA rfl
  have y9 := cell_at (j := 9) kA rfl
  have yf := froz_at kA
  have z0 := cell_at (j := 0) kZ rfl
  have z1 := cell_at (j := 1) kZ rfl
  have z2 := cell_at (j := 2) kZ rfl
  have z3 := cell_at (j := 3) kZ rfl
  have zf := froz_at kZ
  clear kT kA kZ
  unfold PT at HP ⊢
  go_enter Tryz.func6, Tryz.ntmps6
  go_upto_region 1 with fail
  rw [← hV]
  clear hV
  go_upto_block 0 with fail
  rw [show (wrap64 (a.kd.tmod 9 + 9)).tmod 9 = kq a from rfl, hk]
  clear hk
  have hm' : decide ((64 : Int) < (a.k.2.size : Int)) = true := by simp; omega
  go_wp2_with (go_at_call 16; refine HP.out.mono ?_; rintro e w1 ⟨rfl, F1, q1, t1⟩; obtain ⟨kT, kA, kZ⟩ := HKc.out; replace kT := t1.keep kT (fun e => by have := HFl.out _ e; omega); replace kA := t1.keep kA (fun e => by have := HFl.out _ e; omega); replace kZ := t1.keep kZ (fun e => by have := HFl.out _ e; omega); clear HKc a0 a1 a2 a3 af y0 y1 y2 y3 y4 y5 y6 y7 y8 y9 yf z0 z1 z2 z3 zf; have HKc := hid (And.intro kT (And.intro kA kZ)); have a0 := cell_at (j := 0) kT rfl; have a1 := cell_at (j := 1) kT rfl; have a2 := cell_at (j := 2) kT rfl; have a3 := cell_at (j := 3) kT rfl; have af := froz_at kT; have y0 := cell_at (j := 0) kA rfl; have y1 := cell_at (j := 1) kA rfl; have y2 := cell_at (j := 2) kA rfl; have y3 := cell_at (j := 3) kA rfl; have y4 := cell_at (j := 4) kA rfl; have y5 := cell_at (j := 5) kA rfl; have y6 := cell_at (j := 6) kA rfl; have y7 := cell_at (j := 7) kA rfl; have y8 := cell_at (j := 8) kA rfl; have y9 := cell_at (j := 9) kA rfl; have yf := froz_at kA; have z0 := cell_at (j := 0) kZ rfl; have z1 := cell_at (j := 1) kZ rfl; have z2 := cell_at (j := 2) kZ rfl; have z3 := cell_at (j := 3) kZ rfl; have zf := froz_at kZ; clear kT kA kZ; have HBv := hid q1; clear q1 t1)
  obtain ⟨kT, kA, kZ⟩ := HKc.out
  obtain ⟨q4, tF⟩ := finZ kZ (.int .i64 fl) (.int .i64 bg) (.slice la n lc) (.slice ga gn gc)
  have q0 := cell_at (j := 0) q4 rfl
  have q1 := cell_at (j := 1) q4 rfl
  have q2 := cell_at (j := 2) q4 rfl
  have q3 := cell_at (j := 3) q4 rfl
  exact bodyPost_ret (v := .tuple #[.agg #[.int .i64 fl, .int .i64 bg, .slice la n lc, .slice ga gn gc], .bool true]) (by simp [results, Tryz.results6, go_sem, q0, q1, q2, q3]) rfl (HE.out _ _ (HBv.out.box tF (by omega) (by have := HSz.out; omega)))
theorem act_for (w : World) (t : Nat) (F : List Nat) (lv gv : Value) (ds : List De) (gs : List (K × Int)) (T : Tb) (N : Nat) (a : ActT) (hw : WfA a) (h : Bo w t F lv gv ds gs T N) (hN1 : N + 1 ≤ 1700000000000) (hk : kq a = 6) :
    Calls Tryz.prog 6 #[PT t, tv T lv gv, av a] w fun e w' => actP w t F lv gv ds (tFor T a.k) (N + 1) e w' := by
  by_cases hm : a.k.2.size ≤ 64
  · have e : tFor T a.k = goOn T a.k := if_pos (by simp [mayK, hm])
    rw [e]
    exact act_forT w t F lv gv ds gs T N a hw h hN1 hk hm
  · have e : tFor T a.k = T := if_neg (by simp [mayK, hm])
    rw [e]
    exact act_forF w t F lv gv ds gs T N a hw h hN1 hk hm
end Go.Proofs.YtpihhlllembdeaaGreat
