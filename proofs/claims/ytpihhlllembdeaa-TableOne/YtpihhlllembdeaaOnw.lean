/- Of every flight and list of acts: one run a key and generation: the walk of the law TableOne; the list's length is within the form's reach. -/
import Derived.Test.YtpihhlllembdeaaOth
import Derived.Deep.CutRange
import Derived.Deep.CutBlock
namespace Go.Proofs.Ytpihhlllembdeaa
open Go.RowKit Go.Maps Go.ChangeMaps
set_option linter.unusedVariables false
set_option linter.unusedSimpArgs false
set_option maxHeartbeats 4000000 in
set_option maxRecDepth 100000 in
theorem lawOne_no (w : World) (f : Int) (v : Value) (a : Option Addr) (A c : Nat) (hv : v = .slice a A c) (hf : mayF' f = false) : Calls Try.prog 3 #[.int .i64 f, v] w fun e w' => e = .returned (.bool true) ∧ Touch [] w w' := by
  subst hv
  have HN := hid (fun w => newT_no w f hf)
  clear hf
  go_enter Try.func3, Try.ntmps3
  go_upto_region 2 with (go_at_call 5; refine (HN.out _).mono ?_; rintro e w1 ⟨rfl, rfl⟩)
  go_upto_region 3 with (go_at_call 6; refine (awakeT _).mono ?_; rintro e w2 ⟨rfl, t2⟩; have T2 := hid t2; clear t2)
  go_wp2_with (go_at_call 6; refine (awakeT _).mono ?_; rintro e w3 ⟨rfl, t3⟩; have T3 := hid t3; clear t3)
  go_ret
  exact ⟨rfl, T2.out.trans' T3.out⟩
/-- The box of an act, and what lies beside it. -/
structure Ob (B : Nat) (ac : ActT) (w : World) (gb : Nat) (F : List Nat) (wx : World) : Prop where
  hb : wx.heap[B]? = some (.cells (ca ac) 37 (0, 0))
  nF : ¬ B ∈ F
  nG : B ≠ gb
theorem Ob.keep {B : Nat} {ac : ActT} {w : World} {gb : Nat} {F F' G : List Nat} {wx w' : World} (h : Ob B ac w gb F wx) (T : Touch G wx w') (hG : ∀ d, d ∈ G → d ∈ F) (hF : Nf wx F F') : Ob B ac w gb F' w' := by
  have hl := block_lt h.hb
  refine ⟨T.keep h.hb (fun e => h.nF (hG _ e)), fun e => ?_, h.nG⟩
  rcases hF B e with e' | e'
  · exact h.nF e'
  · omega
/-- What stands behind an act's step. -/
def Oa (w : World) (f : Int) (t gb B : Nat) (ac : ActT) (T : Tb) (G : K → Option Int) (ng N : Nat) (wx : World) : Prop := ∃ F, Os w f t gb F T G ng N wx ∧ Ob B ac w gb F wx
theorem oa_of {w V w4 w' : World} {f : Int} {t gb B N : Nat} {ac : ActT} {F : List Nat} {T T' : Tb} {G : K → Option Int} {ng M : Nat} (h : Os w f t gb F T G ng N V) (hb : Ob B ac w gb F V) (X : Touch [] V w4) (E : TqE w4 w' t F T' M) (hf : T'.fl = T.fl) (hg : ∀ k, T.gn k ≤ T'.gn k) : Oa w f t gb B ac T' G ng M w' := by
  obtain ⟨F', q1, q2, q3⟩ := (h.keep X).step E hf hg
  exact ⟨F', q1, (hb.keep X (fun _ e => by cases e) (Nf.refl _ _)).keep q2 (fun _ e => e) q3⟩
/-- What stands between two rounds of the look at the runs in progress. -/
def Oi (W1 : World) (gb sb : Nat) (T : Tb) (ng j : Nat) (wx : World) : Prop := Touch [gb, sb] W1 wx ∧ ∃ G ng', MapK KC wx gb ng' (gV G) ∧ (∀ k v, G k = some v → v ≤ T.gn k) ∧ ng' ≤ ng + j ∧ MapK KGc wx sb j (seenF (T.rs.take j))
/-- .. and behind the last. -/
def OiX (w : World) (f : Int) (t gb B : Nat) (ac : ActT) (T : Tb) (ng N : Nat) (wx : World) : Prop := ∃ F G ng', ng' ≤ ng + 4096 ∧ Os w f t gb F T G ng' N wx ∧ Ob B ac w gb F wx
set_option maxHeartbeats 8000000 in
set_option maxRecDepth 100000 in
theorem lawOne_ok (w : World) (f : Int) (xs : List ActT) (v : Value) (hf : mayF' f = true) (hv : SlM w v xs) (hw : ∀ a ∈ xs, WfA a) (hL : xs.length ≤ 1599289640354) : Calls Try.prog 3 #[.int .i64 f, v] w fun e w' => e = .returned (.bool true) ∧ Touch [] w w' := by
  obtain ⟨avv, cv, rfl⟩ : ∃ av cv, v = .slice av xs.length cv := by
    rcases hv with ⟨rfl, a, c, rfl⟩ | ⟨b, off, cap, rfl, _⟩
    · exact ⟨a, c, rfl⟩
    · exact ⟨_, _, rfl⟩
  have HRow : Hid (xs.length = 0 ∨ ∃ b off, avv = some ⟨b, off, none⟩ ∧ RowM w b off xs) := by
    rcases hv with ⟨rfl, _⟩ | ⟨b, off, cap, e, r⟩
    · exact Or.inl rfl
    · simp only [Value.slice.injEq] at e
      exact Or.inr ⟨b, off, e.1, r⟩
  obtain ⟨A, hA⟩ : ∃ A, A = xs.length := ⟨_, rfl⟩
  have HAx := hid hA
  have HWf := hid hw
  rw [← hA] at HRow hL ⊢
  have HLe := hid hL
  have HN := hid (fun w => newT_ok w f hf)
  unfold TnE at HN
  have hmm := @run_makeMap Try.prog
  clear hA hw hL hv
  unfold PT at HN
  go_enter Try.func3, Try.ntmps3
  go_upto_region 2 with (go_at_call 5; refine (HN.out _).mono ?_; rintro e w1 ⟨t, F1, rfl, q1, q2, q3⟩; have Q1 := hid (And.intro q1 (And.intro q2 q3)); clear q1 q2 q3)
  go_upto_region 4 with (go_at_call 6; refine (awakeT _).mono ?_; rintro e w2 ⟨rfl, t2⟩; have T2 := hid t2; clear t2)
  obtain ⟨gb, hgb⟩ : ∃ gb, gb = w2.heap.size := ⟨_, rfl⟩
  obtain ⟨W0, hW0⟩ : ∃ W0, W0 = w2.alloc (.map #[] 0) := ⟨_, rfl⟩
  have HI : Hid (OsX w f t gb 0 W0) := by
    obtain ⟨q1, q2, q3⟩ := Q1.out
    have z1 := (q2.trans' T2.out).size
    have hlt := q1.lt
    have z2 := T2.out.size
    refine ⟨F1, T0 f, fun _ => none, 0, Nat.zero_le _, ⟨(q1.keep0 T2.out).keep0 (by rw [hW0]; exact (Touch.refl _ _).alloc _), rfl, ?_, fun k v e => (by cases e), fun d hd => ⟨q3 d hd, fun e => ?_⟩, by omega, ?_⟩⟩
    · rw [hW0, hgb]; exact mapK_made KC w2
    · have := hlt d hd; omega
    · rw [hW0]; exact (q2.trans' T2.out).alloc _
  go_upto_region 5 with fail
  rw [← hW0, ← hgb]
  clear hW0 hgb T2 Q1 HN
  go_wp2_with fail
  go_loopw [42] (fun s42 wr => ∃ m : Nat, s42 = .int .i64 (m : Int) ∧ m ≤ A ∧ Hid (OsX w f t gb m wr)) (fun i _ => A - (intOf i).toNat)
  case atStart => exact ⟨0, rfl, Nat.zero_le _, HI⟩
  case round =>
    clear HI
    obtain ⟨m, rfl, hm, HR⟩ := hrel
    by_cases hlt : m < A
    · have zk : (m : Int) < (A : Int) := by omega
      have zA : (A : Int) ≤ 1599289640354 := by have := HLe.out; omega
      obtain ⟨ba, off, rfl, hrow⟩ : ∃ ba off, avv = some ⟨ba, off, none⟩ ∧ RowM w ba off xs := by
        rcases HRow.out with e | e
        · omega
        · exact e
      have hnx : m < xs.length := by have := HAx.out; omega
      obtain ⟨F, T, G, ng, hng, hp⟩ := HR.out
      have hr2 := hrow.keep hp.tt
      have q0 := hr2.c0 m hnx
      have q1 := hr2.c1 m hnx
      have q2 := hr2.c2 m hnx
      have q3 := hr2.c3 m hnx
      have q4 := hr2.c4 m hnx
      have q5 := hr2.c5 m hnx
      have q6 := hr2.c6 m hnx
      have q7 := hr2.c7 m hnx
      have q8 := hr2.c8 m hnx
      have q9 := hr2.c9 m hnx
      have HWx := hid (HWf.out xs[m] (List.getElem_mem hnx))
      clear hrow hr2
      generalize xs[m] = ac at *
      clear hnx HR
      have HNn := hid (And.intro hm hlt)
      clear hm hlt
      obtain ⟨V, hV⟩ : ∃ V, V = wr.alloc (.cells (ca ac) 37) := ⟨_, rfl⟩
      have tV : Touch [] wr V := by rw [hV]; exact (Touch.refl _ _).alloc _
      have hVb : V.heap[wr.heap.size]? = some (.cells (ca ac) 37 (0, 0)) := by rw [hV]; exact heap_alloc_new wr _
      have hob : Ob wr.heap.size ac w gb F V := ⟨hVb, fun e => by have := hp.tq.lt _ e; omega, fun e => by have := hp.gm.lt; omega⟩
      have HP := hid (And.intro (hp.keep tV) hob)
      have hiv := hp.tq.iv
      have HNg := hid hng
      have HIv := hid hiv
      have hm3 : m ≤ 3000000000000 := by have := HNn.out; have := HLe.out; omega
      have HC := hid (cancT V t F T m (HP.out.1.tq) hm3 ac.rn HWx.out.2.1)
      have HBg : Hid (∀ w', Touch [] V w' → Calls Try.prog 8 #[PT t] w' fun e w2 => e = .returned (.int .i64 T.bg) ∧ Touch [] V w2) := fun w' X => (begunT w' t F T m (HP.out.1.tq.keep0 X)).mono (fun e w2 hh => ⟨hh.1, by rw [hh.2]; exact X⟩)
      have HGn : Hid (∀ w', Touch [] V w' → Calls Try.prog 9 #[PT t, kv ac.k] w' fun e w2 => e = .returned (.int .i64 (T.gn ac.k)) ∧ Touch [] V w2) := fun w' X => (gennT w' t F T m (HP.out.1.tq.keep0 X) ac.k HWx.out.2.2.2.1).mono (fun e w2 hh => ⟨hh.1, X.trans' hh.2⟩)
      have K4 : ∀ w', Touch [] V w' → w'.cell? ⟨wr.heap.size, 4, none⟩ = some (.int .u16 ac.k.1) := fun w' X => (acs_at (X.keep hVb (by simp))).i4
      have K5 : ∀ w', Touch [] V w' → w'.cell? ⟨wr.heap.size, 5, none⟩ = some (.string ac.k.2) := fun w' X => (acs_at (X.keep hVb (by simp))).i5
      have HQ : Hid (∀ w', Touch [] V w' → Acs w' wr.heap.size ac) := fun w' X => acs_at (X.keep hVb (by simp))
      obtain ⟨i0, i1, i2, i3, i4, i5, i6, i7, i8, i9⟩ := HQ.out V (Touch.refl _ _)
      clear hp hng tV hVb hob hiv
      unfold ca at hV
      unfold PT at HC HBg HGn
      unfold kv at HGn
      go_upto_block 1 with fail
      go_upto_region 8 with fail
      rw [← hV]
      clear hV q0 q1 q2 q3 q4 q5 q6 q7 q8 q9
      go_upto_region 9 with (go_at_call 7; refine HC.out.mono ?_; rintro e w3 ⟨rfl, e3⟩; rw [e3]; clear e3 w3)
      have k0 : Touch [] V V.drew := (Touch.refl _ _).drew
      refine wp_region_H (S := fun w' => Touch [] V w') (by kernel_rfl) ?_
      refine wpH_take (i := 0) (v := (.pointer (some ⟨t, 0, none⟩))) (some 50) rfl rfl (by kernel_rfl) (by kernel_rfl) (by kernel_rfl) (fun _ _ _ h => h) (Or.inl ⟨by rfl, fun w' hS => (by go_simp)⟩) k0 ?_
      try simp only [Go.Act.put, List.setIfInBounds_toArray, List.set_cons_zero, List.set_cons_succ]
      refine wpH_take (i := 2) (v := (.pointer (some ⟨t, 0, none⟩))) (some 52) rfl rfl (by kernel_rfl) (by kernel_rfl) (by kernel_rfl) (fun _ _ _ h => h) (Or.inl ⟨by rfl, fun w' hS => (by go_simp)⟩) k0 ?_
      try simp only [Go.Act.put, List.setIfInBounds_toArray, List.set_cons_zero, List.set_cons_succ]
      refine wpH_take (i := 3) (v := (.pointer (some ⟨wr.heap.size, 4, none⟩))) (some 53) rfl rfl (by kernel_rfl) (by kernel_rfl) (by kernel_rfl) (fun _ _ _ h => h) (Or.inl ⟨by rfl, fun w' hS => (by go_simp)⟩) k0 ?_
      try simp only [Go.Act.put, List.setIfInBounds_toArray, List.set_cons_zero, List.set_cons_succ]
      refine wpH_take (i := 4) (v := (.agg #[.int .u16 ac.k.1, .string ac.k.2])) (some 54) rfl rfl (by kernel_rfl) (by kernel_rfl) (by kernel_rfl) (fun _ _ _ h => h) (Or.inl ⟨by rfl, fun w' hS => (by have z0 := K4 _ hS; have z1 := K5 _ hS; go_simp)⟩) k0 ?_
      try simp only [Go.Act.put, List.setIfInBounds_toArray, List.set_cons_zero, List.set_cons_succ]
      refine wpH_call (i := 1) (o := { dst := some 51, op := Op.call { callee := Callee.value (Operand.func 8), args := #[Operand.tmp 50], argTypes := #[23] }, type := 3, pos := _, after := #[{ on := 0, ground := Ground.data }], guard := none }) (by kernel_rfl) rfl (fun K' hK => ?_)
      rw [if_pos (by rfl)]
      go_simp
      refine (HBg.out _ k0).mono ?_
      rintro e' w3 ⟨rfl, kB⟩
      refine hK.out _ _ kB ?_
      clear hK
      try simp only [Go.Act.put, List.setIfInBounds_toArray, List.set_cons_zero, List.set_cons_succ]
      refine wpH_call (i := 5) (o := { dst := some 55, op := Op.call { callee := Callee.value (Operand.func 9), args := #[Operand.tmp 52, Operand.tmp 54], argTypes := #[23, 31] }, type := 3, pos := _, after := #[{ on := 2, ground := Ground.data }, { on := 4, ground := Ground.data }, { on := 1, ground := Ground.chain }], guard := none }) (by kernel_rfl) rfl (fun K' hK => ?_)
      rw [if_pos (by rfl)]
      go_simp
      refine (HGn.out _ kB).mono ?_
      rintro e' w4 ⟨rfl, kG⟩
      refine hK.out _ _ kG ?_
      clear hK
      try simp only [Go.Act.put, List.setIfInBounds_toArray, List.set_cons_zero, List.set_cons_succ]
      refine wpH_take (i := 6) (v := (.int .i64 T.bg)) (some 11) rfl rfl (by kernel_rfl) (by kernel_rfl) (by kernel_rfl) (fun _ _ _ h => h) (Or.inl ⟨by rfl, fun w' hS => (by go_simp)⟩) kG ?_
      try simp only [Go.Act.put, List.setIfInBounds_toArray, List.set_cons_zero, List.set_cons_succ]
      refine wpH_take (i := 7) (v := (.int .i64 (T.gn ac.k))) (some 12) rfl rfl (by kernel_rfl) (by kernel_rfl) (by kernel_rfl) (fun _ _ _ h => h) (Or.inl ⟨by rfl, fun w' hS => (by go_simp)⟩) kG ?_
      try simp only [Go.Act.put, List.setIfInBounds_toArray, List.set_cons_zero, List.set_cons_succ]
      refine wpAnyH_done (by kernel_rfl) ?_ _
      clear i0 i1 i2 i3 i4 i5 i6 i7 i8 i9 HC HBg HGn K4 K5
      obtain ⟨i0, i1, i2, i3, i4, i5, i6, i7, i8, i9⟩ := HQ.out _ kG
      have KG := hid kG
      clear kG kB k0
      have HJ : Hid (Calls Try.prog 10 #[PT t, .int .i64 ac.rn, .int .i64 ac.cl] w4 fun e w' => e = .returned (.int .i64 (tJoinE T ac.rn ac.cl)) ∧ (kq ac = 2 → Oa w f t gb wr.heap.size ac (actT T ac) G ng (m + 1) w')) :=
        (joinT w4 t F T m (HP.out.1.tq.keep0 KG.out) hm3 ac.rn ac.cl HWx.out.2.1 HWx.out.2.2.1).mono (fun e w' hh => ⟨hh.1, fun e2 => oa_of HP.out.1 HP.out.2 KG.out (by have := hh.2; unfold actT; rw [e2]; simpa using this) (fl_act T ac) (fun k => (gn_act T ac k).1)⟩)
      have HLv : Hid (Calls Try.prog 11 #[PT t, .int .i64 ac.rn, .int .i64 ac.cl] w4 fun e w' => e = .returned (.tuple #[.agg #[.bool (tLeaveC T ac.rn ac.cl), .bool (tLeaveA T ac.rn ac.cl)], .int .i64 (tLeaveE T ac.rn ac.cl)]) ∧ (kq ac = 3 ∨ kq ac = 4 → Oa w f t gb wr.heap.size ac (actT T ac) G ng (m + 1) w')) :=
        (leaveT w4 t F T m (HP.out.1.tq.keep0 KG.out) hm3 ac.rn ac.cl HWx.out.2.1 HWx.out.2.2.1).mono (fun e w' hh => ⟨hh.1, fun e2 => oa_of HP.out.1 HP.out.2 KG.out (by have := hh.2; unfold actT; rw [if_neg (by rcases e2 with e2 | e2 <;> omega), if_pos e2]; exact this) (fl_act T ac) (fun k => (gn_act T ac k).1)⟩)
      have HRl : Hid (Calls Try.prog 12 #[PT t, .int .i64 ac.rn] w4 fun e w' => e = .returned (.tuple #[.agg #[.bool (tRelC T ac.rn), .bool (tRelA T ac.rn)], .int .i64 (tRelE T ac.rn)]) ∧ (kq ac = 5 → Oa w f t gb wr.heap.size ac (actT T ac) G ng (m + 1) w')) :=
        (relT w4 t F T m (HP.out.1.tq.keep0 KG.out) hm3 ac.rn HWx.out.2.1).mono (fun e w' hh => ⟨hh.1, fun e2 => oa_of HP.out.1 HP.out.2 KG.out (by have := hh.2; unfold actT; rw [e2]; simpa using this) (fl_act T ac) (fun k => (gn_act T ac k).1)⟩)
      have HFg : Hid (Calls Try.prog 13 #[PT t, kv ac.k] w4 fun e w' => e = .returned (.tuple #[.int .i64 (tForN T ac.k), .int .i64 (tForR T ac.k), .int .i64 (tForE ac.k)]) ∧ (kq ac = 6 → Oa w f t gb wr.heap.size ac (actT T ac) G ng (m + 1) w')) :=
        (forgetT w4 t F T m (HP.out.1.tq.keep0 KG.out) hm3 ac.k HWx.out.2.2.2.1).mono (fun e w' hh => ⟨hh.1, fun e2 => oa_of HP.out.1 HP.out.2 KG.out (by have := hh.2; unfold actT; rw [e2]; simpa using this) (fl_act T ac) (fun k => (gn_act T ac k).1)⟩)
      have HEn : Hid (Calls Try.prog 14 #[PT t, .int .i64 ac.rn, ov ac.o] w4 fun e w' => ∃ v, e = .returned (.tuple #[v, .bool (tEndC T ac.rn ac.o), .int .i64 (tEndE T ac.rn ac.o)]) ∧ (kq ac = 7 → Oa w f t gb wr.heap.size ac (actT T ac) G ng (m + 1) w')) :=
        (endT w4 t F T m (HP.out.1.tq.keep0 KG.out) hm3 ac.rn ac.o HWx.out.2.1).mono (fun e w' hh => by
          obtain ⟨v, h1, h2, h3⟩ := hh
          exact ⟨v, h1, fun e2 => oa_of HP.out.1 HP.out.2 KG.out (by have := h3.mono (Nat.le_succ m); unfold actT; rw [e2]; simpa using this) (fl_act T ac) (fun k => (gn_act T ac k).1)⟩)
      have HBn : Hid (Calls Try.prog 15 #[PT t, kv ac.k, .int .i64 ac.cl, .bool ac.rf] w4 fun e w' => e = .returned (.tuple #[.int .i64 (tBegN T ac.k ac.cl ac.rf), .int .i64 (tBegE T ac.k ac.cl ac.rf)]) ∧ (¬ kq ac = 2 → ¬ (kq ac = 3 ∨ kq ac = 4) → ¬ kq ac = 5 → ¬ kq ac = 6 → ¬ kq ac = 7 → Oa w f t gb wr.heap.size ac (actT T ac) G ng (m + 1) w')) :=
        (beginT w4 t F T m (HP.out.1.tq.keep0 KG.out) hm3 ac.k HWx.out.2.2.2.1 ac.cl HWx.out.2.2.1 ac.rf).mono (fun e w' hh => ⟨hh.1, fun e2 e3 e5 e6 e7 => oa_of HP.out.1 HP.out.2 KG.out (by have := hh.2; unfold actT; rw [if_neg e2, if_neg e3, if_neg e5, if_neg e6, if_neg e7]; exact this) (fl_act T ac) (fun k => (gn_act T ac k).1)⟩)
      have hj2 : ((tJoinE T ac.rn ac.cl == 0) && cancOf T ac.rn) = false := by
        by_cases e : tJoinE T ac.rn ac.cl = 0
        · have := join_canc e; simp [this]
        · simp [e]
      have HJ2 := hid hj2
      clear hj2
      have HB2 : Hid (tBegE T ac.k ac.cl ac.rf = 0 → tBegN T ac.k ac.cl ac.rf = T.bg + 1) := fun e => by unfold tBegN; rw [if_pos e]
      have hwb : IntKind.i64.wrap (T.bg + 1) = T.bg + 1 := by have := HIv.out.bg; rw [IntKind.wrap_i64]; omega
      have hck : cancOf T ac.rn = false ∨ cancOf T ac.rn = true := by cases cancOf T ac.rn <;> simp
      unfold PT at HJ HLv HRl HFg HEn HBn
      unfold kv at HFg HBn
      unfold ov at HEn
      go_upto_block 2 with fail
      rw [show (wrap64 (ac.kd.tmod 9 + 9)).tmod 9 = kq ac from rfl]
      generalize hcc : cancOf T ac.rn = cc at *
      clear hcc
      obtain ⟨fg, hfg⟩ : ∃ fg, fg = (kq ac == 6) := ⟨_, rfl⟩
      rw [← hfg]
      have HFq := hid hfg
      clear hfg
      go_cut [14, 15] from 67 to 126 (fun s14 s15 wx => Hid (Oa w f t gb wr.heap.size ac (actT T ac) G ng (m + 1) wx))
      case first =>
        as_aux_lemma =>
          by_cases h2 : kq ac = 2
          · have b2 : (kq ac == 2) = true := by simp [h2]
            have H2 := hid h2
            clear h2 HLv HRl HFg HEn HBn HB2 hwb
            by_cases hj : tJoinE T ac.rn ac.cl = 0
            · have hj' : (tJoinE T ac.rn ac.cl == 0) = true := by simp [hj]
              have hcf : cc = false := by have := HJ2.out; rw [hj'] at this; simpa using this
              subst hcf
              clear hj HJ2 hck
              generalize tJoinE T ac.rn ac.cl = E at *
              go_wp2_with (go_at_call 10; refine HJ.out.mono ?_; rintro e w5 ⟨rfl, r5⟩; have R5 := hid (r5 H2.out); clear r5)
              go_meet
              case rel => exact R5
            · have hj' : (tJoinE T ac.rn ac.cl == 0) = false := by simp [hj]
              clear hj HJ2 hck
              generalize tJoinE T ac.rn ac.cl = E at *
              go_wp2_with (go_at_call 10; refine HJ.out.mono ?_; rintro e w5 ⟨rfl, r5⟩; have R5 := hid (r5 H2.out); clear r5)
              go_meet
              case rel => exact R5
          · have b2 : (kq ac == 2) = false := by simp [h2]
            clear HJ HJ2 hck
            by_cases h3 : kq ac = 3
            · have b3 : (kq ac == 3) = true := by simp [h3]
              have H3 := hid h3
              clear h2 h3 HRl HFg HEn HBn HB2 hwb
              go_wp2_with (go_at_call 11; refine HLv.out.mono ?_; rintro e w5 ⟨rfl, r5⟩; have R5 := hid (r5 (Or.inl H3.out)); clear r5)
              go_meet
              case rel => exact R5
            · have b3 : (kq ac == 3) = false := by simp [h3]
              by_cases h4 : kq ac = 4
              · have b4 : (kq ac == 4) = true := by simp [h4]
                have H4 := hid h4
                clear h2 h3 h4 HRl HFg HEn HBn HB2 hwb
                go_wp2_with (go_at_call 11; refine HLv.out.mono ?_; rintro e w5 ⟨rfl, r5⟩; have R5 := hid (r5 (Or.inr H4.out)); clear r5)
                go_meet
                case rel => exact R5
              · have b4 : (kq ac == 4) = false := by simp [h4]
                clear HLv
                by_cases h5 : kq ac = 5
                · have b5 : (kq ac == 5) = true := by simp [h5]
                  have H5 := hid h5
                  clear h2 h3 h4 h5 HFg HEn HBn HB2 hwb
                  go_wp2_with (go_at_call 12; refine HRl.out.mono ?_; rintro e w5 ⟨rfl, r5⟩; have R5 := hid (r5 H5.out); clear r5)
                  go_meet
                  case rel => exact R5
                · have b5 : (kq ac == 5) = false := by simp [h5]
                  clear HRl
                  by_cases h6 : kq ac = 6
                  · have b6 : (kq ac == 6) = true := by simp [h6]
                    have H6 := hid h6
                    clear h2 h3 h4 h5 h6 HEn HBn HB2 hwb
                    go_wp2_with (go_at_call 13; refine HFg.out.mono ?_; rintro e w5 ⟨rfl, r5⟩; have R5 := hid (r5 H6.out); clear r5)
                    go_meet
                    case rel => exact R5
                  · have b6 : (kq ac == 6) = false := by simp [h6]
                    clear HFg
                    by_cases h7 : kq ac = 7
                    · have b7 : (kq ac == 7) = true := by simp [h7]
                      have H7 := hid h7
                      clear h2 h3 h4 h5 h6 h7 HBn HB2 hwb
                      go_wp2_with (go_at_call 14; refine HEn.out.mono ?_; rintro e w5 ⟨v5, rfl, r5⟩; have R5 := hid (r5 H7.out); clear r5)
                      go_meet
                      case rel => exact R5
                    · have b7 : (kq ac == 7) = false := by simp [h7]
                      have HNo := hid (And.intro h2 (And.intro (fun e : kq ac = 3 ∨ kq ac = 4 => e.elim h3 h4) (And.intro h5 (And.intro h6 h7))))
                      clear h2 h3 h4 h5 h6 h7 HEn
                      by_cases hz : tBegE T ac.k ac.cl ac.rf = 0
                      · have e1 := HB2.out hz
                        rw [hz, e1] at HBn
                        clear hz e1 HB2
                        go_wp2_with (go_at_call 15; refine HBn.out.mono ?_; rintro e w5 ⟨rfl, r5⟩; have R5 := hid (r5 HNo.out.1 HNo.out.2.1 HNo.out.2.2.1 HNo.out.2.2.2.1 HNo.out.2.2.2.2); clear r5)
                        go_meet
                        case rel => exact R5
                      · have hz' : (tBegE T ac.k ac.cl ac.rf == 0) = false := by simp [hz]
                        clear hz HB2 hwb
                        generalize tBegE T ac.k ac.cl ac.rf = E at *
                        generalize tBegN T ac.k ac.cl ac.rf = nn at *
                        go_wp2_with (go_at_call 15; refine HBn.out.mono ?_; rintro e w5 ⟨rfl, r5⟩; have R5 := hid (r5 HNo.out.1 HNo.out.2.1 HNo.out.2.2.1 HNo.out.2.2.2.1 HNo.out.2.2.2.2); clear r5)
                        go_meet
                        case rel => exact R5
      case rest =>
        clear HJ HLv HRl HFg HEn HBn HJ2 HB2 hwb hck HP KG HQ i0 i1 i2 i3 i4 i5 i6 i7 i8 i9
        obtain ⟨wo, hwo⟩ : ∃ wo, wo = wr := ⟨_, rfl⟩
        have hcut' := hcut
        clear hcut
        rw [← hwo] at hcut' ⊢
        obtain ⟨B, hB⟩ : ∃ B, B = wo.heap.size := ⟨_, rfl⟩
        rw [← hB] at hcut' ⊢
        clear hB hwo
        have HGk := hid (gn_act T ac ac.k)
        have HGf : Hid (fg = true → ac.k.2.size ≤ 64 → (actT T ac).gn ac.k = T.gn ac.k + 1) := hid (fun e1 e2 => gn_forget (by have := HFq.out; rw [e1] at this; simpa using this.symm) (by unfold mayK; exact decide_eq_true e2))
        generalize actT T ac = T' at *
        obtain ⟨F2, hos, hob⟩ := hcut'.out
        clear hcut'
        have hm4 : m + 1 ≤ 3000000000000 := by have := HNn.out; have := HLe.out; omega
        have HI2 := hid hos.tq.iv
        have HLi2 := hid hos.tq.live
        obtain ⟨sb, hsb⟩ : ∃ sb, sb = wc.heap.size := ⟨_, rfl⟩
        obtain ⟨Ws, hWs⟩ : ∃ Ws, Ws = wc.alloc (.map #[] 0) := ⟨_, rfl⟩
        have tS : Touch [] wc Ws := by rw [hWs]; exact (Touch.refl _ _).alloc _
        have hS0 : MapK KGc Ws sb 0 (fun _ => none) := by rw [hWs, hsb]; exact mapK_made KGc wc
        have HPr := hid (progT Ws t F2 T' (m + 1) (hos.tq.keep0 tS) hm4)
        have hOS := hid (And.intro hos hob)
        have hsbl : sb < Ws.heap.size := hS0.lt
        have HS0 := hid hS0
        have HTS := hid tS
        have hfl : T'.fl = f := hos.fl
        have hlen : ((runsOf T').length : Int) ≤ f := by have := HI2.out.len; unfold runsOf; rw [List.length_map]; omega
        have hlen2 : (runsOf T').length ≤ 4096 := by have := HI2.out.fl; omega
        have HSB : Hid (sb ≠ gb ∧ sb ≠ B ∧ (∀ d, d ∈ F2 → d ≠ sb) ∧ w.heap.size ≤ sb) := by
          have l1 := hos.gm.lt
          have l2 := block_lt hob.hb
          have l3 := hos.tt.size
          refine ⟨by omega, by omega, fun d hd e => ?_, by omega⟩
          have := hos.tq.lt d hd
          omega
        have HL1 := hid hlen
        have HL2 := hid hlen2
        clear hos hob tS hS0 hlen hlen2 hfl hsbl
        unfold WtE at HPr
        unfold PT at HPr
        go_upto_region 28 with fail
        rw [← hWs, ← hsb]
        clear hWs hsb
        go_upto_block 3 with (go_at_call 16; refine HPr.out.mono ?_; rintro e W1 ⟨vs, rfl, r1, r2, r3⟩; obtain ⟨sa, sc, rfl, rl1, rl2⟩ := r1.form; have HW := hid (And.intro r1 (And.intro r2 r3)); clear r1 r2 r3 rl1 rl2)
        have HTq : Hid (∀ w', Touch [gb, sb] W1 w' → Tq w' t F2 T' (m + 1)) := fun w' X => ((hOS.out.1.tq.keep0 HTS.out).keep0 HW.out.2.2).keep X (fun d hd e => by
          simp only [List.mem_cons, List.not_mem_nil, or_false] at e
          rcases e with e | e
          · exact (hOS.out.1.fr d hd).2 e
          · exact HSB.out.2.2.1 d hd e)
        have HBx : Hid (∀ w', Touch [gb, sb] W1 w' → w'.heap[B]? = some (.cells (ca ac) 37 (0, 0))) := fun w' X => X.keep (HW.out.2.2.keep (HTS.out.keep hOS.out.2.hb (by simp)) (by simp)) (by
          simp only [List.mem_cons, List.not_mem_nil, or_false]
          rintro (e | e)
          · exact hOS.out.2.nG e
          · exact HSB.out.2.1 e.symm)
        have HRd : Hid (∀ w', Touch [gb, sb] W1 w' → Rd w' (.slice sa (runsOf T').length sc) (runsOf T')) := fun w' X => HW.out.1.keep X (fun b hb e => by
          have l1 := HW.out.2.1 b hb
          have l2 := (hOS.out.1.gm.keep HTS.out (by simp)).lt
          have l3 := HS0.out.lt
          simp only [List.mem_cons, List.not_mem_nil, or_false] at e
          rcases e with e | e <;> omega)
        have HIn0 : Hid (Oi W1 gb sb T' ng 0 W1) := ⟨Touch.refl _ _, G, ng, (hOS.out.1.gm.keep HTS.out (by simp)).keep HW.out.2.2 (by simp), hOS.out.1.gl, Nat.le_refl _, (HS0.out.keep HW.out.2.2 (by simp)).congr (fun x _ => by simp [seenF])⟩
        have HFin : Hid (∀ wx, Oi W1 gb sb T' ng (runsOf T').length wx → OiX w f t gb B ac T' ng (m + 1) wx) := fun wx q => by
          obtain ⟨q1, G', ng', q2, q3, q4, q5⟩ := q
          refine ⟨F2, G', ng', by have := HL2.out; omega, ⟨HTq.out _ q1, hOS.out.1.fl, q2, q3, hOS.out.1.fr, hOS.out.1.gb, ((hOS.out.1.tt.trans' HTS.out).trans' HW.out.2.2).trans q1 (fun i hi => Or.inr ?_)⟩, HBx.out _ q1, hOS.out.2.nF, hOS.out.2.nG⟩
          simp only [List.mem_cons, List.not_mem_nil, or_false] at hi
          rcases hi with e | e
          · have := hOS.out.1.gb; omega
          · have := HSB.out.2.2.2; omega
        have HN2 : Hid (ng ≤ 4096 * m) := HNg
        have hLL : (runsOf T').length = T'.rs.length := by unfold runsOf; simp
        have HLL := hid hLL
        clear HPr hOS HTS HS0 hLL HW
        obtain ⟨n, hn⟩ : ∃ n, n = (runsOf T').length := ⟨_, rfl⟩
        rw [← hn]
        have HNl := hid hn
        clear hn
        go_cut [18, 19, 20, 21] from 131 to 192 (fun s18 s19 s20 s21 wx => Hid (OiX w f t gb B ac T' ng (m + 1) wx))
        case first =>
          go_wp2_with fail
          go_loopw [131] (fun s131 wr => ∃ j : Nat, s131 = .int .i64 (j : Int) ∧ j ≤ n ∧ Hid (Oi W1 gb sb T' ng j wr)) (fun i _ => n - (intOf i).toNat)
          case atStart => exact ⟨0, rfl, Nat.zero_le _, HIn0⟩
          case round =>
            clear HIn0
            obtain ⟨j, rfl, hj, HR⟩ := hrel
            by_cases hjl : j < n
            · have zj : (j : Int) < (n : Int) := by omega
              have zn : (n : Int) ≤ 4096 := by have := HL2.out; have := HNl.out; omega
              have hjr : j < T'.rs.length := by have := HLL.out; have := HNl.out; omega
              obtain ⟨p, hp⟩ : ∃ p, T'.rs[j]? = some p := ⟨_, List.getElem?_eq_getElem hjr⟩
              have hpm : p ∈ T'.rs := List.mem_of_getElem? hp
              have hrun : (runsOf T')[j]? = some p.1.run := by unfold runsOf; rw [List.getElem?_map, hp]; rfl
              obtain ⟨t1, G1, ng1, gm1, gl1, hng1, sm1⟩ := HR.out
              clear HR
              have hjn : j < (runsOf T').length := by have := HNl.out; omega
              obtain ⟨rb, rfl, cj⟩ := (HRd.out _ t1).cell hjn
              have ej : (runsOf T')[j] = p.1.run := by
                have := List.getElem?_eq_getElem hjn
                rw [hrun] at this
                exact (Option.some.inj this).symm
              rw [ej] at cj
              have hok : Ok (kOf p.1) := HI2.out.ok p hpm
              have hge := HI2.out.gen p hpm
              have hgn := HI2.out.gn (kOf p.1)
              have hrg := HI2.out.rng p hpm
              have hbg := HI2.out.bg
              have hnk : OkG (kOf p.1, p.1.gen) := ⟨hok, W64.mk (by simp only; omega) (by simp only; omega)⟩
              have hW : W64 p.1.run := W64.mk (by omega) (by omega)
              have hro := runOf_of_mem HI2.out hpm
              have FRun : Hid (∀ w', Touch [gb, sb] W1 w' → Calls Try.prog 17 #[PT t, .int .i64 p.1.run] w' fun e w2 => e = .returned (.tuple #[rv p.1, .bool true]) ∧ Touch [] w' w2) := fun w' X => by
                have := runT w' t F2 T' (m + 1) (HTq.out _ X) hm4 p.1.run hW
                unfold rnOf at this
                rw [hro] at this
                exact this
              have FGen : Hid (∀ w', Touch [gb, sb] W1 w' → Calls Try.prog 9 #[PT t, kv (kOf p.1)] w' fun e w2 => e = .returned (.int .i64 (T'.gn (kOf p.1))) ∧ Touch [] w' w2) := fun w' X => gennT w' t F2 T' (m + 1) (HTq.out _ X) (kOf p.1) hok
              have FCan : Hid (∀ w', Touch [gb, sb] W1 w' → Calls Try.prog 7 #[PT t, .int .i64 p.1.run] w' fun e w2 => e = .returned (.bool p.2.canc) ∧ Touch [] w' w2) := fun w' X => by
                have := cancT w' t F2 T' (m + 1) (HTq.out _ X) hm4 p.1.run hW
                unfold cancOf at this
                rw [hro] at this
                exact this.mono (fun e w2 hh => ⟨hh.1, by rw [hh.2]; exact Touch.refl _ _⟩)
              have FWai : Hid (p.2.canc = true → ∀ w', Touch [gb, sb] W1 w' → Calls Try.prog 18 #[PT t, .int .i64 p.1.run] w' fun e w2 => ∃ a c, e = .returned (.slice a 0 c) ∧ Touch [] w' w2) := fun hc w' X => by
                have := waitersT w' t F2 T' (m + 1) (HTq.out _ X) hm4 p.1.run hW
                unfold whoOf at this
                rw [hro] at this
                have hw0 := canc_who HI2.out HLi2.out hpm hc
                simp only at this
                rw [hw0] at this
                refine this.mono ?_
                rintro e w2 ⟨v, rfl, q1, q2, q3⟩
                obtain ⟨a, c, rfl, _⟩ := q1.form
                exact ⟨a, c, rfl, q3⟩
              have hsn : seenF (T'.rs.take j) (kOf p.1, p.1.gen) = none := seen_next HI2.out hp
              have hst : T'.rs.take (j + 1) = T'.rs.take j ++ [p] := by
                rw [List.take_succ_eq_append_getElem hjr]
                have := List.getElem?_eq_getElem hjr
                rw [hp] at this
                rw [← Option.some.inj this]
              have LSn : Hid (∀ w', Touch [] wr w' → (Instr.lookup 54 (.map (some sb)) (gv (kOf p.1, p.1.gen)) false).run Try.prog w' = .ok (.bool false) w') := fun w' X => by
                have := (sm1.keep X (by simp)).look (t := 54) Try.underlying54 (zero4 w') hnk
                rw [hsn] at this
                exact this
              have USn : Hid (∀ w', Touch [] wr w' → ∃ o, (Instr.mapUpdate 54 (.map (some sb)) (gv (kOf p.1, p.1.gen)) (.bool true)).run Try.prog w' = .ok () (setBlock w' sb o) ∧ Touch [sb] wr (setBlock w' sb o) ∧ MapK KGc (setBlock w' sb o) sb (j + 1) (seenF (T'.rs.take (j + 1)))) := fun w' X => by
                obtain ⟨o, q1, q2⟩ := (sm1.keep X (by simp)).set (t := 54) Try.underlying54 (by unfold maxLen; omega) hnk (.bool true)
                rw [hsn] at q2
                refine ⟨o, q1, (X.mono (fun _ e => by cases e)).trans (touch_setBlock (Touch.refl [sb] _) (Or.inl (by simp)) o) (fun i hi => Or.inl hi), ?_⟩
                simp only [Option.isSome_none, Bool.false_eq_true, if_false] at q2
                rw [hst]
                exact q2.congr (fun x _ => seen_put x)
              have hgv : ∃ g0, g0 ≤ T'.gn (kOf p.1) ∧ ∀ w', Touch [sb] wr w' → (Instr.lookup 28 (.map (some gb)) (kv (kOf p.1)) false).run Try.prog w' = .ok (.int .i64 g0) w' := by
                refine ⟨(G1 (kOf p.1)).getD 0, ?_, fun w' X => ?_⟩
                · cases hg : G1 (kOf p.1) with
                  | none => exact hgn.1
                  | some v => exact gl1 _ v hg
                · have := (gm1.keep X (by simp; exact fun e => HSB.out.1 e.symm)).look (t := 28) Try.underlying28 (zero3 w') hok
                  rw [show (KC : KK Try.prog 31 K).kv (kOf p.1) = kv (kOf p.1) from rfl] at this
                  rw [this]
                  unfold gV
                  cases G1 (kOf p.1) <;> rfl
              obtain ⟨g0, hg0, lg0⟩ := hgv
              have UGn : Hid (∀ w', Touch [sb] wr w' → MapK KGc w' sb (j + 1) (seenF (T'.rs.take (j + 1))) → ∃ o, (Instr.mapUpdate 28 (.map (some gb)) (kv (kOf p.1)) (.int .i64 (T'.gn (kOf p.1)))).run Try.prog w' = .ok () (setBlock w' gb o) ∧ Oi W1 gb sb T' ng (j + 1) (setBlock w' gb o)) := fun w' X sm => by
                have hgs : gb ≠ sb := fun e => HSB.out.1 e.symm
                obtain ⟨o, q1, q2⟩ := (gm1.keep X (by simp; exact hgs)).set (t := 28) Try.underlying28 (by have := HN2.out; have := HNn.out; have := HLe.out; unfold maxLen; omega) hok (.int .i64 (T'.gn (kOf p.1)))
                refine ⟨o, q1, (t1.trans (X.mono (by simp)) (fun i hi => Or.inl hi)).trans (touch_setBlock (Touch.refl [gb, sb] _) (Or.inl (by simp)) o) (fun i hi => Or.inl hi), fun x => if x = kOf p.1 then some (T'.gn (kOf p.1)) else G1 x, _, q2.congr (fun x _ => ?_), fun x v e => ?_, ?_, sm.keep (touch_setBlock (Touch.refl [gb] _) (Or.inl (by simp)) o) (by simp; exact hgs.symm)⟩
                · by_cases ek : x = kOf p.1 <;> simp [kupd, gV, ek]
                · simp only at e
                  split at e
                  · rename_i ek
                    cases e
                    rw [ek]
                    exact Int.le_refl _
                  · exact gl1 x v e
                · split <;> omega
              have hgt : p.1.gen ≤ T'.gn (p.1.sp, p.1.nm) := hge.2
              have hgt2 : g0 ≤ T'.gn (p.1.sp, p.1.nm) := hg0
              have HT1 := hid t1
              have HJj := hid (And.intro hj hjl)
              have LG0 := hid lg0
              have HLt := hid (And.intro gm1.lt sm1.lt)
              clear hj hjl hjr hp hpm hrun t1 gm1 gl1 hng1 sm1 hjn ej hok hge hgn hrg hbg hnk hW hro hsn hst hg0 lg0
              unfold PT at FRun FGen FCan FWai
              unfold rv at FRun
              unfold kv kOf at FGen LG0 UGn
              unfold gv kOf at LSn USn
              go_upto_region 31 with fail
              go_upto_region 33 with (go_at_call 17; refine (FRun.out _ HT1.out).mono ?_; rintro e w2 ⟨rfl, t2⟩; have T2 := hid t2; clear t2)
              obtain ⟨W3, hW3⟩ : ∃ W3, W3 = (w2.alloc (.cells #[.int .i64 p.1.run, .int .u16 p.1.sp, .string p.1.nm, .int .i64 p.1.gen, .bool p.1.rf] 58)).alloc (.cells #[.int .i64 0, .int .u16 p.1.sp, .string p.1.nm, .int .i64 p.1.gen, .bool false] 58) := ⟨_, rfl⟩
              have t3 : Touch [] wr W3 := by rw [hW3]; exact (T2.out.alloc _).alloc _
              have hbO : W3.heap[w2.heap.size + 1]? = some (.cells #[.int .i64 0, .int .u16 p.1.sp, .string p.1.nm, .int .i64 p.1.gen, .bool false] 58 (0, 0)) := by
                rw [hW3]
                have := heap_alloc_new (w2.alloc (.cells #[.int .i64 p.1.run, .int .u16 p.1.sp, .string p.1.nm, .int .i64 p.1.gen, .bool p.1.rf] 58)) (.cells #[.int .i64 0, .int .u16 p.1.sp, .string p.1.nm, .int .i64 p.1.gen, .bool false] 58)
                rwa [World.size_alloc] at this
              have hbR : W3.heap[w2.heap.size]? = some (.cells #[.int .i64 p.1.run, .int .u16 p.1.sp, .string p.1.nm, .int .i64 p.1.gen, .bool p.1.rf] 58 (0, 0)) := by rw [hW3]; exact (Below.heap_alloc _ _ _ (by simp)).trans (heap_alloc_new w2 _)
              rw [← hW3]
              clear hW3
              have hzz := T2.out.size
              obtain ⟨bR, hR⟩ : ∃ bR, bR = w2.heap.size := ⟨_, rfl⟩
              obtain ⟨bO, hO⟩ : ∃ bO, bO = w2.heap.size + 1 := ⟨_, rfl⟩
              have hnb : bR ≠ sb ∧ bR ≠ gb := by have := HLt.out; omega
              rw [← hO] at hbO ⊢
              rw [← hR] at hbR ⊢
              clear hR hO hzz T2 FRun
              have O0 : ∀ w', Touch [] W3 w' → w'.cell? ⟨bO, 0, none⟩ = some (.int .i64 0) := fun w' X => cell_at (X.keep hbO (by simp)) rfl
              have O1 : ∀ w', Touch [] W3 w' → w'.cell? ⟨bO, 1, none⟩ = some (.int .u16 p.1.sp) := fun w' X => cell_at (X.keep hbO (by simp)) rfl
              have O2 : ∀ w', Touch [] W3 w' → w'.cell? ⟨bO, 2, none⟩ = some (.string p.1.nm) := fun w' X => cell_at (X.keep hbO (by simp)) rfl
              have O3 : ∀ w', Touch [] W3 w' → w'.cell? ⟨bO, 3, none⟩ = some (.int .i64 p.1.gen) := fun w' X => cell_at (X.keep hbO (by simp)) rfl
              have O4 : ∀ w', Touch [] W3 w' → w'.cell? ⟨bO, 4, none⟩ = some (.bool false) := fun w' X => cell_at (X.keep hbO (by simp)) rfl
              have R1 : ∀ w', Touch [] W3 w' → w'.cell? ⟨bR, 1, none⟩ = some (.int .u16 p.1.sp) := fun w' X => cell_at (X.keep hbR (by simp)) rfl
              have R2 : ∀ w', Touch [] W3 w' → w'.cell? ⟨bR, 2, none⟩ = some (.string p.1.nm) := fun w' X => cell_at (X.keep hbR (by simp)) rfl
              have R3 : ∀ w', Touch [] W3 w' → w'.cell? ⟨bR, 3, none⟩ = some (.int .i64 p.1.gen) := fun w' X => cell_at (X.keep hbR (by simp)) rfl
              have LS : ∀ w', Touch [] W3 w' → (Instr.lookup 54 (.map (some sb)) (.agg #[.int .i64 0, .int .u16 p.1.sp, .string p.1.nm, .int .i64 p.1.gen, .bool false]) false).run Try.prog w' = .ok (.bool false) w' := fun w' X => LSn.out _ (t3.trans' X)
              have HX : Hid (∀ w', Touch [] W3 w' → Touch [gb, sb] W1 w') := fun w' X => HT1.out.trans (t3.trans' X) (fun _ e => by cases e)
              have k0 : Touch [] W3 W3.drew := (Touch.refl _ _).drew
              go_cut [173] from 146 to 172 (fun s173 wx => s173 = .bool false ∧ Hid (Touch [] W3 wx))
              case first =>
                rcases (by cases p.2.canc <;> simp : p.2.canc = false ∨ p.2.canc = true) with hc | hc
                · rw [hc] at FCan
                  clear FWai hc
                  refine wp_region_H (S := fun w' => Touch [] W3 w') (by kernel_rfl) ?_
                  refine wpH_take (i := 0) (v := (.bool true)) (some 146) rfl rfl (by as_aux_lemma => kernel_rfl) (by as_aux_lemma => kernel_rfl) (by as_aux_lemma => kernel_rfl) (fun _ _ _ h => h) (Or.inl ⟨by rfl, fun w' hS => (by go_simp)⟩) k0 ?_
                  try simp only [Go.Act.put, List.setIfInBounds_toArray, List.set_cons_zero, List.set_cons_succ]
                  refine wpH_take (i := 1) (v := (.bool false)) (some 147) rfl rfl (by as_aux_lemma => kernel_rfl) (by as_aux_lemma => kernel_rfl) (by as_aux_lemma => kernel_rfl) (fun _ _ _ h => h) (Or.inl ⟨by rfl, fun w' hS => (by go_simp)⟩) k0 ?_
                  try simp only [Go.Act.put, List.setIfInBounds_toArray, List.set_cons_zero, List.set_cons_succ]
                  refine wpH_take (i := 2) (v := (.bool false)) (some 148) rfl rfl (by as_aux_lemma => kernel_rfl) (by as_aux_lemma => kernel_rfl) (by as_aux_lemma => kernel_rfl) (fun _ _ _ h => h) (Or.inl ⟨by rfl, fun w' hS => (by go_simp)⟩) k0 ?_
                  try simp only [Go.Act.put, List.setIfInBounds_toArray, List.set_cons_zero, List.set_cons_succ]
                  refine wpH_take (i := 3) (v := (.map (some sb))) (some 149) rfl rfl (by as_aux_lemma => kernel_rfl) (by as_aux_lemma => kernel_rfl) (by as_aux_lemma => kernel_rfl) (fun _ _ _ h => h) (Or.inl ⟨by rfl, fun w' hS => (by go_simp)⟩) k0 ?_
                  try simp only [Go.Act.put, List.setIfInBounds_toArray, List.set_cons_zero, List.set_cons_succ]
                  refine wpH_take (i := 4) (v := (.agg #[.int .i64 0, .int .u16 p.1.sp, .string p.1.nm, .int .i64 p.1.gen, .bool false])) (some 150) rfl rfl (by as_aux_lemma => kernel_rfl) (by as_aux_lemma => kernel_rfl) (by as_aux_lemma => kernel_rfl) (fun _ _ _ h => h) (Or.inl ⟨by rfl, fun w' hS => (by have z0 := O0 _ hS; have z1 := O1 _ hS; have z2 := O2 _ hS; have z3 := O3 _ hS; have z4 := O4 _ hS; go_simp)⟩) k0 ?_
                  try simp only [Go.Act.put, List.setIfInBounds_toArray, List.set_cons_zero, List.set_cons_succ]
                  refine wpH_take (i := 5) (v := (.bool false)) (some 151) rfl rfl (by as_aux_lemma => kernel_rfl) (by as_aux_lemma => kernel_rfl) (by as_aux_lemma => kernel_rfl) (fun _ _ _ h => h) (Or.inl ⟨by rfl, fun w' hS => (by have z0 := LS _ hS; go_simp)⟩) k0 ?_
                  try simp only [Go.Act.put, List.setIfInBounds_toArray, List.set_cons_zero, List.set_cons_succ]
                  refine wpH_take (i := 6) (v := (.bool false)) (some 152) rfl rfl (by as_aux_lemma => kernel_rfl) (by as_aux_lemma => kernel_rfl) (by as_aux_lemma => kernel_rfl) (fun _ _ _ h => h) (Or.inl ⟨by rfl, fun w' hS => (by go_simp)⟩) k0 ?_
                  try simp only [Go.Act.put, List.setIfInBounds_toArray, List.set_cons_zero, List.set_cons_succ]
                  refine wpH_take (i := 7) (v := (.bool false)) (some 153) rfl rfl (by as_aux_lemma => kernel_rfl) (by as_aux_lemma => kernel_rfl) (by as_aux_lemma => kernel_rfl) (fun _ _ _ h => h) (Or.inl ⟨by rfl, fun w' hS => (by go_simp)⟩) k0 ?_
                  try simp only [Go.Act.put, List.setIfInBounds_toArray, List.set_cons_zero, List.set_cons_succ]
                  refine wpH_take (i := 8) (v := (.pointer (some ⟨bR, 3, none⟩))) (some 154) rfl rfl (by as_aux_lemma => kernel_rfl) (by as_aux_lemma => kernel_rfl) (by as_aux_lemma => kernel_rfl) (fun _ _ _ h => h) (Or.inl ⟨by rfl, fun w' hS => (by go_simp)⟩) k0 ?_
                  try simp only [Go.Act.put, List.setIfInBounds_toArray, List.set_cons_zero, List.set_cons_succ]
                  refine wpH_take (i := 9) (v := (.int .i64 p.1.gen)) (some 155) rfl rfl (by as_aux_lemma => kernel_rfl) (by as_aux_lemma => kernel_rfl) (by as_aux_lemma => kernel_rfl) (fun _ _ _ h => h) (Or.inl ⟨by rfl, fun w' hS => (by have z0 := R3 _ hS; go_simp)⟩) k0 ?_
                  try simp only [Go.Act.put, List.setIfInBounds_toArray, List.set_cons_zero, List.set_cons_succ]
                  refine wpH_take (i := 10) (v := (.pointer (some ⟨t, 0, none⟩))) (some 156) rfl rfl (by as_aux_lemma => kernel_rfl) (by as_aux_lemma => kernel_rfl) (by as_aux_lemma => kernel_rfl) (fun _ _ _ h => h) (Or.inl ⟨by rfl, fun w' hS => (by go_simp)⟩) k0 ?_
                  try simp only [Go.Act.put, List.setIfInBounds_toArray, List.set_cons_zero, List.set_cons_succ]
                  refine wpH_take (i := 11) (v := (.pointer (some ⟨bR, 1, none⟩))) (some 157) rfl rfl (by as_aux_lemma => kernel_rfl) (by as_aux_lemma => kernel_rfl) (by as_aux_lemma => kernel_rfl) (fun _ _ _ h => h) (Or.inl ⟨by rfl, fun w' hS => (by go_simp)⟩) k0 ?_
                  try simp only [Go.Act.put, List.setIfInBounds_toArray, List.set_cons_zero, List.set_cons_succ]
                  refine wpH_take (i := 12) (v := (.agg #[.int .u16 p.1.sp, .string p.1.nm])) (some 158) rfl rfl (by as_aux_lemma => kernel_rfl) (by as_aux_lemma => kernel_rfl) (by as_aux_lemma => kernel_rfl) (fun _ _ _ h => h) (Or.inl ⟨by rfl, fun w' hS => (by have z0 := R1 _ hS; have z1 := R2 _ hS; go_simp)⟩) k0 ?_
                  try simp only [Go.Act.put, List.setIfInBounds_toArray, List.set_cons_zero, List.set_cons_succ]
                  refine wpH_call (i := 13) (o := { dst := some 159, op := Op.call { callee := Callee.value (Operand.func 9), args := #[Operand.tmp 156, Operand.tmp 158], argTypes := #[23, 31] }, type := 3, pos := _, after := #[{ on := 10, ground := Ground.data }, { on := 12, ground := Ground.data }, { on := 7, ground := Ground.chain }, { on := 7, ground := Ground.guard }], guard := some (7, false) }) (by as_aux_lemma => kernel_rfl) rfl (fun K' hK => ?_)
                  rw [if_pos (by rfl)]
                  go_simp
                  refine (FGen.out _ (HX.out _ k0)).mono ?_
                  rintro e' x1 ⟨rfl, s1⟩
                  have k1 : Touch [] W3 x1 := k0.trans' s1
                  refine hK.out _ _ k1 ?_
                  clear hK
                  try simp only [Go.Act.put, List.setIfInBounds_toArray, List.set_cons_zero, List.set_cons_succ]
                  refine wpH_take (i := 14) (v := (.bool false)) (some 160) rfl rfl (by as_aux_lemma => kernel_rfl) (by as_aux_lemma => kernel_rfl) (by as_aux_lemma => kernel_rfl) (fun _ _ _ h => h) (Or.inl ⟨by rfl, fun w' hS => (by go_simp)⟩) k1 ?_
                  try simp only [Go.Act.put, List.setIfInBounds_toArray, List.set_cons_zero, List.set_cons_succ]
                  refine wpH_take (i := 15) (v := (.bool false)) (some 161) rfl rfl (by as_aux_lemma => kernel_rfl) (by as_aux_lemma => kernel_rfl) (by as_aux_lemma => kernel_rfl) (fun _ _ _ h => h) (Or.inl ⟨by rfl, fun w' hS => (by go_simp)⟩) k1 ?_
                  try simp only [Go.Act.put, List.setIfInBounds_toArray, List.set_cons_zero, List.set_cons_succ]
                  refine wpH_take (i := 16) (v := (.bool false)) (some 162) rfl rfl (by as_aux_lemma => kernel_rfl) (by as_aux_lemma => kernel_rfl) (by as_aux_lemma => kernel_rfl) (fun _ _ _ h => h) (Or.inl ⟨by rfl, fun w' hS => (by go_simp)⟩) k1 ?_
                  try simp only [Go.Act.put, List.setIfInBounds_toArray, List.set_cons_zero, List.set_cons_succ]
                  refine wpH_take (i := 17) (v := (.pointer (some ⟨t, 0, none⟩))) (some 163) rfl rfl (by as_aux_lemma => kernel_rfl) (by as_aux_lemma => kernel_rfl) (by as_aux_lemma => kernel_rfl) (fun _ _ _ h => h) (Or.inl ⟨by rfl, fun w' hS => (by go_simp)⟩) k1 ?_
                  try simp only [Go.Act.put, List.setIfInBounds_toArray, List.set_cons_zero, List.set_cons_succ]
                  refine wpH_take (i := 18) (v := (.int .i64 p.1.run)) (some 164) rfl rfl (by as_aux_lemma => kernel_rfl) (by as_aux_lemma => kernel_rfl) (by as_aux_lemma => kernel_rfl) (fun _ _ _ h => h) (Or.inl ⟨by rfl, fun w' hS => (by go_simp)⟩) k1 ?_
                  try simp only [Go.Act.put, List.setIfInBounds_toArray, List.set_cons_zero, List.set_cons_succ]
                  refine wpH_call (i := 19) (o := { dst := some 165, op := Op.call { callee := Callee.value (Operand.func 7), args := #[Operand.tmp 163, Operand.tmp 164], argTypes := #[23, 3] }, type := 4, pos := _, after := #[{ on := 17, ground := Ground.data }, { on := 18, ground := Ground.data }, { on := 16, ground := Ground.chain }, { on := 16, ground := Ground.guard }], guard := some (16, false) }) (by as_aux_lemma => kernel_rfl) rfl (fun K' hK => ?_)
                  rw [if_pos (by rfl)]
                  go_simp
                  refine (FCan.out _ (HX.out _ k1)).mono ?_
                  rintro e' x2 ⟨rfl, s2⟩
                  have k2 : Touch [] W3 x2 := k1.trans' s2
                  refine hK.out _ _ k2 ?_
                  clear hK
                  try simp only [Go.Act.put, List.setIfInBounds_toArray, List.set_cons_zero, List.set_cons_succ]
                  refine wpH_take (i := 20) (v := (.bool false)) (some 166) rfl rfl (by as_aux_lemma => kernel_rfl) (by as_aux_lemma => kernel_rfl) (by as_aux_lemma => kernel_rfl) (fun _ _ _ h => h) (Or.inl ⟨by rfl, fun w' hS => (by go_simp)⟩) k2 ?_
                  try simp only [Go.Act.put, List.setIfInBounds_toArray, List.set_cons_zero, List.set_cons_succ]
                  refine wpH_take (i := 21) (v := undef) (some 167) rfl rfl (by as_aux_lemma => kernel_rfl) (by as_aux_lemma => kernel_rfl) (by as_aux_lemma => kernel_rfl) (fun _ _ _ h => h) (Or.inr ⟨by rfl, rfl⟩) k2 ?_
                  try simp only [Go.Act.put, List.setIfInBounds_toArray, List.set_cons_zero, List.set_cons_succ]
                  refine wpH_take (i := 22) (v := undef) (some 168) rfl rfl (by as_aux_lemma => kernel_rfl) (by as_aux_lemma => kernel_rfl) (by as_aux_lemma => kernel_rfl) (fun _ _ _ h => h) (Or.inr ⟨by rfl, rfl⟩) k2 ?_
                  try simp only [Go.Act.put, List.setIfInBounds_toArray, List.set_cons_zero, List.set_cons_succ]
                  refine wpH_take (i := 23) (v := undef) (some 169) rfl rfl (by as_aux_lemma => kernel_rfl) (by as_aux_lemma => kernel_rfl) (by as_aux_lemma => kernel_rfl) (fun _ _ _ h => h) (Or.inr ⟨by rfl, rfl⟩) k2 ?_
                  try simp only [Go.Act.put, List.setIfInBounds_toArray, List.set_cons_zero, List.set_cons_succ]
                  refine wpH_take (i := 24) (v := undef) (some 170) rfl rfl (by as_aux_lemma => kernel_rfl) (by as_aux_lemma => kernel_rfl) (by as_aux_lemma => kernel_rfl) (fun _ _ _ h => h) (Or.inr ⟨by rfl, rfl⟩) k2 ?_
                  try simp only [Go.Act.put, List.setIfInBounds_toArray, List.set_cons_zero, List.set_cons_succ]
                  refine wpH_take (i := 25) (v := undef) (some 171) rfl rfl (by as_aux_lemma => kernel_rfl) (by as_aux_lemma => kernel_rfl) (by as_aux_lemma => kernel_rfl) (fun _ _ _ h => h) (Or.inr ⟨by rfl, rfl⟩) k2 ?_
                  try simp only [Go.Act.put, List.setIfInBounds_toArray, List.set_cons_zero, List.set_cons_succ]
                  refine wpH_take (i := 26) (v := (.bool false)) (some 172) rfl rfl (by as_aux_lemma => kernel_rfl) (by as_aux_lemma => kernel_rfl) (by as_aux_lemma => kernel_rfl) (fun _ _ _ h => h) (Or.inl ⟨by rfl, fun w' hS => (by go_simp)⟩) k2 ?_
                  try simp only [Go.Act.put, List.setIfInBounds_toArray, List.set_cons_zero, List.set_cons_succ]
                  refine wpH_take (i := 27) (v := (.bool false)) (some 173) rfl rfl (by as_aux_lemma => kernel_rfl) (by as_aux_lemma => kernel_rfl) (by as_aux_lemma => kernel_rfl) (fun _ _ _ h => h) (Or.inl ⟨by rfl, fun w' hS => (by go_simp)⟩) k2 ?_
                  try simp only [Go.Act.put, List.setIfInBounds_toArray, List.set_cons_zero, List.set_cons_succ]
                  refine wpAnyH_done (by as_aux_lemma => kernel_rfl) ?_ _
                  go_wp2_with fail
                  go_meet
                  case rel => exact ⟨rfl, hid k2⟩
                · rw [hc] at FCan
                  have FW := hid (FWai.out hc)
                  clear FWai hc
                  refine wp_region_H (S := fun w' => Touch [] W3 w') (by kernel_rfl) ?_
                  refine wpH_take (i := 0) (v := (.bool true)) (some 146) rfl rfl (by as_aux_lemma => kernel_rfl) (by as_aux_lemma => kernel_rfl) (by as_aux_lemma => kernel_rfl) (fun _ _ _ h => h) (Or.inl ⟨by rfl, fun w' hS => (by go_simp)⟩) k0 ?_
                  try simp only [Go.Act.put, List.setIfInBounds_toArray, List.set_cons_zero, List.set_cons_succ]
                  refine wpH_take (i := 1) (v := (.bool false)) (some 147) rfl rfl (by as_aux_lemma => kernel_rfl) (by as_aux_lemma => kernel_rfl) (by as_aux_lemma => kernel_rfl) (fun _ _ _ h => h) (Or.inl ⟨by rfl, fun w' hS => (by go_simp)⟩) k0 ?_
                  try simp only [Go.Act.put, List.setIfInBounds_toArray, List.set_cons_zero, List.set_cons_succ]
                  refine wpH_take (i := 2) (v := (.bool false)) (some 148) rfl rfl (by as_aux_lemma => kernel_rfl) (by as_aux_lemma => kernel_rfl) (by as_aux_lemma => kernel_rfl) (fun _ _ _ h => h) (Or.inl ⟨by rfl, fun w' hS => (by go_simp)⟩) k0 ?_
                  try simp only [Go.Act.put, List.setIfInBounds_toArray, List.set_cons_zero, List.set_cons_succ]
                  refine wpH_take (i := 3) (v := (.map (some sb))) (some 149) rfl rfl (by as_aux_lemma => kernel_rfl) (by as_aux_lemma => kernel_rfl) (by as_aux_lemma => kernel_rfl) (fun _ _ _ h => h) (Or.inl ⟨by rfl, fun w' hS => (by go_simp)⟩) k0 ?_
                  try simp only [Go.Act.put, List.setIfInBounds_toArray, List.set_cons_zero, List.set_cons_succ]
                  refine wpH_take (i := 4) (v := (.agg #[.int .i64 0, .int .u16 p.1.sp, .string p.1.nm, .int .i64 p.1.gen, .bool false])) (some 150) rfl rfl (by as_aux_lemma => kernel_rfl) (by as_aux_lemma => kernel_rfl) (by as_aux_lemma => kernel_rfl) (fun _ _ _ h => h) (Or.inl ⟨by rfl, fun w' hS => (by have z0 := O0 _ hS; have z1 := O1 _ hS; have z2 := O2 _ hS; have z3 := O3 _ hS; have z4 := O4 _ hS; go_simp)⟩) k0 ?_
                  try simp only [Go.Act.put, List.setIfInBounds_toArray, List.set_cons_zero, List.set_cons_succ]
                  refine wpH_take (i := 5) (v := (.bool false)) (some 151) rfl rfl (by as_aux_lemma => kernel_rfl) (by as_aux_lemma => kernel_rfl) (by as_aux_lemma => kernel_rfl) (fun _ _ _ h => h) (Or.inl ⟨by rfl, fun w' hS => (by have z0 := LS _ hS; go_simp)⟩) k0 ?_
                  try simp only [Go.Act.put, List.setIfInBounds_toArray, List.set_cons_zero, List.set_cons_succ]
                  refine wpH_take (i := 6) (v := (.bool false)) (some 152) rfl rfl (by as_aux_lemma => kernel_rfl) (by as_aux_lemma => kernel_rfl) (by as_aux_lemma => kernel_rfl) (fun _ _ _ h => h) (Or.inl ⟨by rfl, fun w' hS => (by go_simp)⟩) k0 ?_
                  try simp only [Go.Act.put, List.setIfInBounds_toArray, List.set_cons_zero, List.set_cons_succ]
                  refine wpH_take (i := 7) (v := (.bool false)) (some 153) rfl rfl (by as_aux_lemma => kernel_rfl) (by as_aux_lemma => kernel_rfl) (by as_aux_lemma => kernel_rfl) (fun _ _ _ h => h) (Or.inl ⟨by rfl, fun w' hS => (by go_simp)⟩) k0 ?_
                  try simp only [Go.Act.put, List.setIfInBounds_toArray, List.set_cons_zero, List.set_cons_succ]
                  refine wpH_take (i := 8) (v := (.pointer (some ⟨bR, 3, none⟩))) (some 154) rfl rfl (by as_aux_lemma => kernel_rfl) (by as_aux_lemma => kernel_rfl) (by as_aux_lemma => kernel_rfl) (fun _ _ _ h => h) (Or.inl ⟨by rfl, fun w' hS => (by go_simp)⟩) k0 ?_
                  try simp only [Go.Act.put, List.setIfInBounds_toArray, List.set_cons_zero, List.set_cons_succ]
                  refine wpH_take (i := 9) (v := (.int .i64 p.1.gen)) (some 155) rfl rfl (by as_aux_lemma => kernel_rfl) (by as_aux_lemma => kernel_rfl) (by as_aux_lemma => kernel_rfl) (fun _ _ _ h => h) (Or.inl ⟨by rfl, fun w' hS => (by have z0 := R3 _ hS; go_simp)⟩) k0 ?_
                  try simp only [Go.Act.put, List.setIfInBounds_toArray, List.set_cons_zero, List.set_cons_succ]
                  refine wpH_take (i := 10) (v := (.pointer (some ⟨t, 0, none⟩))) (some 156) rfl rfl (by as_aux_lemma => kernel_rfl) (by as_aux_lemma => kernel_rfl) (by as_aux_lemma => kernel_rfl) (fun _ _ _ h => h) (Or.inl ⟨by rfl, fun w' hS => (by go_simp)⟩) k0 ?_
                  try simp only [Go.Act.put, List.setIfInBounds_toArray, List.set_cons_zero, List.set_cons_succ]
                  refine wpH_take (i := 11) (v := (.pointer (some ⟨bR, 1, none⟩))) (some 157) rfl rfl (by as_aux_lemma => kernel_rfl) (by as_aux_lemma => kernel_rfl) (by as_aux_lemma => kernel_rfl) (fun _ _ _ h => h) (Or.inl ⟨by rfl, fun w' hS => (by go_simp)⟩) k0 ?_
                  try simp only [Go.Act.put, List.setIfInBounds_toArray, List.set_cons_zero, List.set_cons_succ]
                  refine wpH_take (i := 12) (v := (.agg #[.int .u16 p.1.sp, .string p.1.nm])) (some 158) rfl rfl (by as_aux_lemma => kernel_rfl) (by as_aux_lemma => kernel_rfl) (by as_aux_lemma => kernel_rfl) (fun _ _ _ h => h) (Or.inl ⟨by rfl, fun w' hS => (by have z0 := R1 _ hS; have z1 := R2 _ hS; go_simp)⟩) k0 ?_
                  try simp only [Go.Act.put, List.setIfInBounds_toArray, List.set_cons_zero, List.set_cons_succ]
                  refine wpH_call (i := 13) (o := { dst := some 159, op := Op.call { callee := Callee.value (Operand.func 9), args := #[Operand.tmp 156, Operand.tmp 158], argTypes := #[23, 31] }, type := 3, pos := _, after := #[{ on := 10, ground := Ground.data }, { on := 12, ground := Ground.data }, { on := 7, ground := Ground.chain }, { on := 7, ground := Ground.guard }], guard := some (7, false) }) (by as_aux_lemma => kernel_rfl) rfl (fun K' hK => ?_)
                  rw [if_pos (by rfl)]
                  go_simp
                  refine (FGen.out _ (HX.out _ k0)).mono ?_
                  rintro e' x1 ⟨rfl, s1⟩
                  have k1 : Touch [] W3 x1 := k0.trans' s1
                  refine hK.out _ _ k1 ?_
                  clear hK
                  try simp only [Go.Act.put, List.setIfInBounds_toArray, List.set_cons_zero, List.set_cons_succ]
                  refine wpH_take (i := 14) (v := (.bool false)) (some 160) rfl rfl (by as_aux_lemma => kernel_rfl) (by as_aux_lemma => kernel_rfl) (by as_aux_lemma => kernel_rfl) (fun _ _ _ h => h) (Or.inl ⟨by rfl, fun w' hS => (by go_simp)⟩) k1 ?_
                  try simp only [Go.Act.put, List.setIfInBounds_toArray, List.set_cons_zero, List.set_cons_succ]
                  refine wpH_take (i := 15) (v := (.bool false)) (some 161) rfl rfl (by as_aux_lemma => kernel_rfl) (by as_aux_lemma => kernel_rfl) (by as_aux_lemma => kernel_rfl) (fun _ _ _ h => h) (Or.inl ⟨by rfl, fun w' hS => (by go_simp)⟩) k1 ?_
                  try simp only [Go.Act.put, List.setIfInBounds_toArray, List.set_cons_zero, List.set_cons_succ]
                  refine wpH_take (i := 16) (v := (.bool false)) (some 162) rfl rfl (by as_aux_lemma => kernel_rfl) (by as_aux_lemma => kernel_rfl) (by as_aux_lemma => kernel_rfl) (fun _ _ _ h => h) (Or.inl ⟨by rfl, fun w' hS => (by go_simp)⟩) k1 ?_
                  try simp only [Go.Act.put, List.setIfInBounds_toArray, List.set_cons_zero, List.set_cons_succ]
                  refine wpH_take (i := 17) (v := (.pointer (some ⟨t, 0, none⟩))) (some 163) rfl rfl (by as_aux_lemma => kernel_rfl) (by as_aux_lemma => kernel_rfl) (by as_aux_lemma => kernel_rfl) (fun _ _ _ h => h) (Or.inl ⟨by rfl, fun w' hS => (by go_simp)⟩) k1 ?_
                  try simp only [Go.Act.put, List.setIfInBounds_toArray, List.set_cons_zero, List.set_cons_succ]
                  refine wpH_take (i := 18) (v := (.int .i64 p.1.run)) (some 164) rfl rfl (by as_aux_lemma => kernel_rfl) (by as_aux_lemma => kernel_rfl) (by as_aux_lemma => kernel_rfl) (fun _ _ _ h => h) (Or.inl ⟨by rfl, fun w' hS => (by go_simp)⟩) k1 ?_
                  try simp only [Go.Act.put, List.setIfInBounds_toArray, List.set_cons_zero, List.set_cons_succ]
                  refine wpH_call (i := 19) (o := { dst := some 165, op := Op.call { callee := Callee.value (Operand.func 7), args := #[Operand.tmp 163, Operand.tmp 164], argTypes := #[23, 3] }, type := 4, pos := _, after := #[{ on := 17, ground := Ground.data }, { on := 18, ground := Ground.data }, { on := 16, ground := Ground.chain }, { on := 16, ground := Ground.guard }], guard := some (16, false) }) (by as_aux_lemma => kernel_rfl) rfl (fun K' hK => ?_)
                  rw [if_pos (by rfl)]
                  go_simp
                  refine (FCan.out _ (HX.out _ k1)).mono ?_
                  rintro e' x2 ⟨rfl, s2⟩
                  have k2 : Touch [] W3 x2 := k1.trans' s2
                  refine hK.out _ _ k2 ?_
                  clear hK
                  try simp only [Go.Act.put, List.setIfInBounds_toArray, List.set_cons_zero, List.set_cons_succ]
                  refine wpH_take (i := 20) (v := (.bool true)) (some 166) rfl rfl (by as_aux_lemma => kernel_rfl) (by as_aux_lemma => kernel_rfl) (by as_aux_lemma => kernel_rfl) (fun _ _ _ h => h) (Or.inl ⟨by rfl, fun w' hS => (by go_simp)⟩) k2 ?_
                  try simp only [Go.Act.put, List.setIfInBounds_toArray, List.set_cons_zero, List.set_cons_succ]
                  refine wpH_take (i := 21) (v := (.pointer (some ⟨t, 0, none⟩))) (some 167) rfl rfl (by as_aux_lemma => kernel_rfl) (by as_aux_lemma => kernel_rfl) (by as_aux_lemma => kernel_rfl) (fun _ _ _ h => h) (Or.inl ⟨by rfl, fun w' hS => (by go_simp)⟩) k2 ?_
                  try simp only [Go.Act.put, List.setIfInBounds_toArray, List.set_cons_zero, List.set_cons_succ]
                  refine wpH_take (i := 22) (v := (.int .i64 p.1.run)) (some 168) rfl rfl (by as_aux_lemma => kernel_rfl) (by as_aux_lemma => kernel_rfl) (by as_aux_lemma => kernel_rfl) (fun _ _ _ h => h) (Or.inl ⟨by rfl, fun w' hS => (by go_simp)⟩) k2 ?_
                  try simp only [Go.Act.put, List.setIfInBounds_toArray, List.set_cons_zero, List.set_cons_succ]
                  refine wpH_call (i := 23) (o := { dst := some 169, op := Op.call { callee := Callee.value (Operand.func 18), args := #[Operand.tmp 167, Operand.tmp 168], argTypes := #[23, 3] }, type := 55, pos := _, after := #[{ on := 21, ground := Ground.data }, { on := 22, ground := Ground.data }, { on := 20, ground := Ground.chain }, { on := 20, ground := Ground.guard }], guard := some (20, true) }) (by as_aux_lemma => kernel_rfl) rfl (fun K' hK => ?_)
                  rw [if_pos (by rfl)]
                  go_simp
                  refine (FW.out _ (HX.out _ k2)).mono ?_
                  rintro e' x3 ⟨qa, qc, rfl, s3⟩
                  have k3 : Touch [] W3 x3 := k2.trans' s3
                  refine hK.out _ _ k3 ?_
                  clear hK
                  try simp only [Go.Act.put, List.setIfInBounds_toArray, List.set_cons_zero, List.set_cons_succ]
                  refine wpH_take (i := 24) (v := (.int .i64 0)) (some 170) rfl rfl (by as_aux_lemma => kernel_rfl) (by as_aux_lemma => kernel_rfl) (by as_aux_lemma => kernel_rfl) (fun _ _ _ h => h) (Or.inl ⟨by rfl, fun w' hS => (by go_simp)⟩) k3 ?_
                  try simp only [Go.Act.put, List.setIfInBounds_toArray, List.set_cons_zero, List.set_cons_succ]
                  refine wpH_take (i := 25) (v := (.bool false)) (some 171) rfl rfl (by as_aux_lemma => kernel_rfl) (by as_aux_lemma => kernel_rfl) (by as_aux_lemma => kernel_rfl) (fun _ _ _ h => h) (Or.inl ⟨by rfl, fun w' hS => (by go_simp)⟩) k3 ?_
                  try simp only [Go.Act.put, List.setIfInBounds_toArray, List.set_cons_zero, List.set_cons_succ]
                  refine wpH_take (i := 26) (v := (.bool false)) (some 172) rfl rfl (by as_aux_lemma => kernel_rfl) (by as_aux_lemma => kernel_rfl) (by as_aux_lemma => kernel_rfl) (fun _ _ _ h => h) (Or.inl ⟨by rfl, fun w' hS => (by go_simp)⟩) k3 ?_
                  try simp only [Go.Act.put, List.setIfInBounds_toArray, List.set_cons_zero, List.set_cons_succ]
                  refine wpH_take (i := 27) (v := (.bool false)) (some 173) rfl rfl (by as_aux_lemma => kernel_rfl) (by as_aux_lemma => kernel_rfl) (by as_aux_lemma => kernel_rfl) (fun _ _ _ h => h) (Or.inl ⟨by rfl, fun w' hS => (by go_simp)⟩) k3 ?_
                  try simp only [Go.Act.put, List.setIfInBounds_toArray, List.set_cons_zero, List.set_cons_succ]
                  refine wpAnyH_done (by as_aux_lemma => kernel_rfl) ?_ _
                  go_wp2_with fail
                  go_meet
                  case rel => exact ⟨rfl, hid k3⟩
              case rest =>
                obtain ⟨rfl, hkz⟩ := hcut
                have kz : Touch [] W3 wc := hkz.out
                obtain ⟨o5, us1, us2, us3⟩ := USn.out wc (t3.trans' kz)
                have y0 := O0 _ kz
                have y1 := O1 _ kz
                have y2 := O2 _ kz
                have y3 := O3 _ kz
                have y4 := O4 _ kz
                have ts5 : Touch [sb] wc (setBlock wc sb o5) := touch_setBlock (Touch.refl _ _) (Or.inl (by simp)) o5
                have tz5 : Touch [sb] W3 (setBlock wc sb o5) := (kz.mono (fun _ e => by cases e)).trans ts5 (fun i hi => Or.inl hi)
                clear O0 O1 O2 O3 O4 R1 R2 R3 LS USn LSn FCan FWai k0 hgt ts5 hkz
                go_upto_region 36 with fail
                obtain ⟨W5, hW5⟩ : ∃ W5, W5 = setBlock wc sb o5 := ⟨_, rfl⟩
                rw [← hW5] at us2 us3 tz5 ⊢
                clear hW5 us1 y0 y1 y2 y3 y4 kz
                have R1 : ∀ w', Touch [] W5 w' → w'.cell? ⟨bR, 1, none⟩ = some (.int .u16 p.1.sp) := fun w' X => cell_at ((tz5.trans X (fun _ e => by cases e)).keep hbR (by simp; exact hnb.1)) rfl
                have R2 : ∀ w', Touch [] W5 w' → w'.cell? ⟨bR, 2, none⟩ = some (.string p.1.nm) := fun w' X => cell_at ((tz5.trans X (fun _ e => by cases e)).keep hbR (by simp; exact hnb.1)) rfl
                have HX5 : Hid (∀ w', Touch [] W5 w' → Touch [gb, sb] W1 w') := fun w' X => HT1.out.trans ((us2.trans X (fun _ e => by cases e)).mono (by simp)) (fun i hi => Or.inl hi)
                have L36 : ∀ w', Touch [] W5 w' → (Instr.lookup 28 (.map (some gb)) (.agg #[.int .u16 p.1.sp, .string p.1.nm]) false).run Try.prog w' = .ok (.int .i64 g0) w' := fun w' X => LG0.out _ (us2.trans X (fun _ e => by cases e))
                have U38 : Hid (∀ w', Touch [] W5 w' → ∃ o, (Instr.mapUpdate 28 (.map (some gb)) (.agg #[.int .u16 p.1.sp, .string p.1.nm]) (.int .i64 (T'.gn (p.1.sp, p.1.nm)))).run Try.prog w' = .ok () (setBlock w' gb o) ∧ Oi W1 gb sb T' ng (j + 1) (setBlock w' gb o)) := fun w' X => UGn.out _ (us2.trans X (fun _ e => by cases e)) (us3.keep X (by simp))
                have k0 : Touch [] W5 W5.drew := (Touch.refl _ _).drew
                clear us2 us3 tz5 UGn LG0 HX t3
                refine wp_region_H (S := fun w' => Touch [] W5 w') (by kernel_rfl) ?_
                refine wpH_take (i := 0) (v := (.pointer (some ⟨t, 0, none⟩))) (some 176) rfl rfl (by kernel_rfl) (by kernel_rfl) (by kernel_rfl) (fun _ _ _ h => h) (Or.inl ⟨by rfl, fun w' hS => (by go_simp)⟩) k0 ?_
                try simp only [Go.Act.put, List.setIfInBounds_toArray, List.set_cons_zero, List.set_cons_succ]
                refine wpH_take (i := 1) (v := (.pointer (some ⟨bR, 1, none⟩))) (some 177) rfl rfl (by kernel_rfl) (by kernel_rfl) (by kernel_rfl) (fun _ _ _ h => h) (Or.inl ⟨by rfl, fun w' hS => (by go_simp)⟩) k0 ?_
                try simp only [Go.Act.put, List.setIfInBounds_toArray, List.set_cons_zero, List.set_cons_succ]
                refine wpH_take (i := 2) (v := (.agg #[.int .u16 p.1.sp, .string p.1.nm])) (some 178) rfl rfl (by kernel_rfl) (by kernel_rfl) (by kernel_rfl) (fun _ _ _ h => h) (Or.inl ⟨by rfl, fun w' hS => (by have z0 := R1 _ hS; have z1 := R2 _ hS; go_simp)⟩) k0 ?_
                try simp only [Go.Act.put, List.setIfInBounds_toArray, List.set_cons_zero, List.set_cons_succ]
                refine wpH_take (i := 4) (v := (.map (some gb))) (some 180) rfl rfl (by kernel_rfl) (by kernel_rfl) (by kernel_rfl) (fun _ _ _ h => h) (Or.inl ⟨by rfl, fun w' hS => (by go_simp)⟩) k0 ?_
                try simp only [Go.Act.put, List.setIfInBounds_toArray, List.set_cons_zero, List.set_cons_succ]
                refine wpH_take (i := 5) (v := (.pointer (some ⟨bR, 1, none⟩))) (some 181) rfl rfl (by kernel_rfl) (by kernel_rfl) (by kernel_rfl) (fun _ _ _ h => h) (Or.inl ⟨by rfl, fun w' hS => (by go_simp)⟩) k0 ?_
                try simp only [Go.Act.put, List.setIfInBounds_toArray, List.set_cons_zero, List.set_cons_succ]
                refine wpH_take (i := 6) (v := (.agg #[.int .u16 p.1.sp, .string p.1.nm])) (some 182) rfl rfl (by kernel_rfl) (by kernel_rfl) (by kernel_rfl) (fun _ _ _ h => h) (Or.inl ⟨by rfl, fun w' hS => (by have z0 := R1 _ hS; have z1 := R2 _ hS; go_simp)⟩) k0 ?_
                try simp only [Go.Act.put, List.setIfInBounds_toArray, List.set_cons_zero, List.set_cons_succ]
                refine wpH_take (i := 7) (v := (.int .i64 g0)) (some 183) rfl rfl (by kernel_rfl) (by kernel_rfl) (by kernel_rfl) (fun _ _ _ h => h) (Or.inl ⟨by rfl, fun w' hS => (by have z0 := L36 _ hS; go_simp)⟩) k0 ?_
                try simp only [Go.Act.put, List.setIfInBounds_toArray, List.set_cons_zero, List.set_cons_succ]
                refine wpH_call (i := 3) (o := { dst := some 179, op := Op.call { callee := Callee.value (Operand.func 9), args := #[Operand.tmp 176, Operand.tmp 178], argTypes := #[23, 31] }, type := 3, pos := _, after := #[{ on := 0, ground := Ground.data }, { on := 2, ground := Ground.data }], guard := none }) (by kernel_rfl) rfl (fun K' hK => ?_)
                rw [if_pos (by rfl)]
                go_simp
                refine (FGen.out _ (HX5.out _ k0)).mono ?_
                rintro e' x6 ⟨rfl, s6⟩
                have k6 : Touch [] W5 x6 := k0.trans' s6
                refine hK.out _ _ k6 ?_
                clear hK
                try simp only [Go.Act.put, List.setIfInBounds_toArray, List.set_cons_zero, List.set_cons_succ]
                refine wpH_take (i := 8) (v := (.bool false)) (some 184) rfl rfl (by kernel_rfl) (by kernel_rfl) (by kernel_rfl) (fun _ _ _ h => h) (Or.inl ⟨by rfl, fun w' hS => (by go_simp)⟩) k6 ?_
                try simp only [Go.Act.put, List.setIfInBounds_toArray, List.set_cons_zero, List.set_cons_succ]
                refine wpAnyH_done (by kernel_rfl) ?_ _
                clear L36 hgt2
                go_upto_region 38 with fail
                have k7 : Touch [] W5 x6.drew := k6.drew
                refine wp_region_L (S := fun w' => Touch [] W5 w') (st := 7) (by kernel_rfl) ?_
                refine wpL_take (i := 0) (v := (.map (some gb))) (some 185) rfl rfl (by kernel_rfl) (by kernel_rfl) (by kernel_rfl) (by kernel_rfl) (by kernel_rfl) (by decide) (fun _ _ _ h => h) (Or.inl ⟨by rfl, fun w' hS => (by go_simp)⟩) k7 ?_
                try simp only [Go.Act.put, List.setIfInBounds_toArray, List.set_cons_zero, List.set_cons_succ]
                refine wpL_take (i := 1) (v := (.pointer (some ⟨bR, 1, none⟩))) (some 186) rfl rfl (by kernel_rfl) (by kernel_rfl) (by kernel_rfl) (by kernel_rfl) (by kernel_rfl) (by decide) (fun _ _ _ h => h) (Or.inl ⟨by rfl, fun w' hS => (by go_simp)⟩) k7 ?_
                try simp only [Go.Act.put, List.setIfInBounds_toArray, List.set_cons_zero, List.set_cons_succ]
                refine wpL_take (i := 2) (v := (.agg #[.int .u16 p.1.sp, .string p.1.nm])) (some 187) rfl rfl (by kernel_rfl) (by kernel_rfl) (by kernel_rfl) (by kernel_rfl) (by kernel_rfl) (by decide) (fun _ _ _ h => h) (Or.inl ⟨by rfl, fun w' hS => (by have z0 := R1 _ hS; have z1 := R2 _ hS; go_simp)⟩) k7 ?_
                try simp only [Go.Act.put, List.setIfInBounds_toArray, List.set_cons_zero, List.set_cons_succ]
                refine wpL_take (i := 3) (v := (.pointer (some ⟨t, 0, none⟩))) (some 188) rfl rfl (by kernel_rfl) (by kernel_rfl) (by kernel_rfl) (by kernel_rfl) (by kernel_rfl) (by decide) (fun _ _ _ h => h) (Or.inl ⟨by rfl, fun w' hS => (by go_simp)⟩) k7 ?_
                try simp only [Go.Act.put, List.setIfInBounds_toArray, List.set_cons_zero, List.set_cons_succ]
                refine wpL_take (i := 4) (v := (.pointer (some ⟨bR, 1, none⟩))) (some 189) rfl rfl (by kernel_rfl) (by kernel_rfl) (by kernel_rfl) (by kernel_rfl) (by kernel_rfl) (by decide) (fun _ _ _ h => h) (Or.inl ⟨by rfl, fun w' hS => (by go_simp)⟩) k7 ?_
                try simp only [Go.Act.put, List.setIfInBounds_toArray, List.set_cons_zero, List.set_cons_succ]
                refine wpL_take (i := 5) (v := (.agg #[.int .u16 p.1.sp, .string p.1.nm])) (some 190) rfl rfl (by kernel_rfl) (by kernel_rfl) (by kernel_rfl) (by kernel_rfl) (by kernel_rfl) (by decide) (fun _ _ _ h => h) (Or.inl ⟨by rfl, fun w' hS => (by have z0 := R1 _ hS; have z1 := R2 _ hS; go_simp)⟩) k7 ?_
                try simp only [Go.Act.put, List.setIfInBounds_toArray, List.set_cons_zero, List.set_cons_succ]
                refine wpL_ready (rs := [6]) (by kernel_rfl) (by simp) (AllL.cons (o := { dst := some 191, op := Op.call { callee := Callee.value (Operand.func 9), args := #[Operand.tmp 188, Operand.tmp 190], argTypes := #[23, 31] }, type := 3, pos := _, after := #[{ on := 3, ground := Ground.data }, { on := 5, ground := Ground.data }], guard := none }) rfl (fun K' hK => ?_) AllL.nil)
                rw [if_pos (by rfl)]
                go_simp
                refine (FGen.out _ (HX5.out _ k7)).mono ?_
                rintro e' x8 ⟨rfl, s8⟩
                have k8 : Touch [] W5 x8 := k7.trans' s8
                obtain ⟨o8, u8, HZ8⟩ := U38.out _ k8
                have HZ := hid HZ8
                clear HZ8
                refine hK.out _ _ (fun _ => k8) ?_
                clear hK
                try simp only [Go.Act.put, List.setIfInBounds_toArray, List.set_cons_zero, List.set_cons_succ]
                refine wpL_ready (rs := [7]) (by kernel_rfl) (by simp) (AllL.cons (o := { dst := none, op := Op.mapUpdate 28 (Operand.tmp 185) (Operand.tmp 187) (Operand.tmp 191), type := 0, pos := _, after := #[{ on := 0, ground := Ground.data }, { on := 2, ground := Ground.data }, { on := 6, ground := Ground.data }, { on := 6, ground := Ground.chain }, { on := 0, ground := Ground.phase }, { on := 1, ground := Ground.phase }, { on := 2, ground := Ground.phase }, { on := 3, ground := Ground.phase }, { on := 4, ground := Ground.phase }, { on := 5, ground := Ground.phase }, { on := 6, ground := Ground.phase }], guard := none }) rfl (fun K' hK => ?_) AllL.nil)
                rw [if_pos (by rfl)]
                go_simp
                refine hK.out _ _ (fun h => absurd h (by decide)) ?_
                clear hK
                try simp only [Go.Act.put, List.setIfInBounds_toArray, List.set_cons_zero, List.set_cons_succ]
                refine wpL_done (by kernel_rfl) ?_ _
                go_wp2_with fail
                go_roundw
                case rel => exact ⟨j + 1, by go_num, by have := HJj.out; omega, HZ⟩
                case measure => simp [intOf]; have := HJj.out; omega
            · have zj : (n : Int) ≤ (j : Int) := by omega
              have e : j = n := by omega
              subst e
              have HZ := hid (HFin.out _ (by rw [← HNl.out]; exact HR.out))
              clear HR
              go_wp2_with fail
              go_meet
              case rel => exact HZ
        case rest =>
          clear HIn0 HTq HBx HRd HFin HSB HL2 HLL HLi2
          have hcut' := hcut
          clear hcut
          obtain ⟨F3, G3, ng3, hn3, os3, ob3⟩ := hcut'.out
          clear hcut'
          have HG4 : Hid (∀ w', Touch [] wc w' → Calls Try.prog 9 #[PT t, kv ac.k] w' fun e w2 => e = .returned (.int .i64 (T'.gn ac.k)) ∧ Touch [] wc w2) := fun w' X => (gennT w' t F3 T' (m + 1) (os3.tq.keep0 X) ac.k HWx.out.2.2.2.1).mono (fun e w2 hh => ⟨hh.1, X.trans' hh.2⟩)
          have HP4 : Hid (∀ w', Touch [] wc w' → Calls Try.prog 16 #[PT t] w' fun e w2 => ∃ a c, e = .returned (.slice a n c) ∧ Touch [] wc w2) := fun w' X => (progT w' t F3 T' (m + 1) (os3.tq.keep0 X) hm4).mono (fun e w2 hh => by
            obtain ⟨v, rfl, q1, q2, q3⟩ := hh
            obtain ⟨a, c, rfl, _⟩ := q1.form
            exact ⟨a, c, by rw [HNl.out], X.trans' q3⟩)
          have HB4 : Hid (∀ w', Touch [] wc w' → Acs w' B ac) := fun w' X => acs_at (X.keep ob3.hb (by simp))
          have HO4 : Hid (∀ w', Touch [] wc w' → OsX w f t gb (m + 1) w') := fun w' X => ⟨F3, T', G3, ng3, by have := HN2.out; omega, os3.keep X⟩
          have hlf : (n : Int) ≤ f := by rw [HNl.out]; exact HL1.out
          have hwg := HIv.out.gn ac.k
          have hws : IntKind.i64.wrap (T.gn ac.k + 1) = T.gn ac.k + 1 := by rw [IntKind.wrap_i64]; omega
          obtain ⟨hlo, hhi⟩ := HGk.out
          obtain ⟨-, -, -, -, i4, i5, -, -, -, -⟩ := HB4.out wc (Touch.refl _ _)
          clear hn3 os3 ob3 HGk hwg HI2 HL1 HNl
          unfold PT at HG4 HP4
          unfold kv at HG4
          generalize T'.gn ac.k = Nz at *
          generalize T.gn ac.k = Wz at *
          rcases (by cases fg <;> simp : fg = false ∨ fg = true) with hc | hc
          · as_aux_lemma =>
              subst hc
              clear HGf
              go_wp2_with (first
                | (go_at_call 9; refine (HG4.out _ (Touch.refl _ _)).mono ?_; rintro e x1 ⟨rfl, s1⟩; have S1 := hid s1; clear i4 i5; obtain ⟨-, -, -, -, i4, i5, -, -, -, -⟩ := HB4.out _ s1; clear s1)
                | (go_at_call 16; refine (HP4.out _ S1.out).mono ?_; rintro e x2 ⟨pa, pc, rfl, s2⟩; have S2 := hid (HO4.out _ s2); clear s2))
              go_roundw
              case rel => exact ⟨m + 1, by go_num, by have := HNn.out; omega, S2⟩
              case measure => simp [intOf]; have := HNn.out; omega
          · subst hc
            by_cases hs : ac.k.2.size ≤ 64
            · as_aux_lemma =>
                have e1 := HGf.out rfl hs
                have hs' : ((ac.k.2.size : Nat) : Int) ≤ 64 := by omega
                have hne : (Nz != Wz + 1) = false := by simp [e1]
                clear e1 hs HGf
                go_wp2_with (first
                  | (go_at_call 9; refine (HG4.out _ (Touch.refl _ _)).mono ?_; rintro e x1 ⟨rfl, s1⟩; have S1 := hid s1; clear i4 i5; obtain ⟨-, -, -, -, i4, i5, -, -, -, -⟩ := HB4.out _ s1; clear s1)
                  | (go_at_call 16; refine (HP4.out _ S1.out).mono ?_; rintro e x2 ⟨pa, pc, rfl, s2⟩; have S2 := hid (HO4.out _ s2); clear s2))
                go_roundw
                case rel => exact ⟨m + 1, by go_num, by have := HNn.out; omega, S2⟩
                case measure => simp [intOf]; have := HNn.out; omega
            · as_aux_lemma =>
                have hs' : ¬ ((ac.k.2.size : Nat) : Int) ≤ 64 := by omega
                clear hs HGf
                go_wp2_with (first
                  | (go_at_call 9; refine (HG4.out _ (Touch.refl _ _)).mono ?_; rintro e x1 ⟨rfl, s1⟩; have S1 := hid s1; clear i4 i5; obtain ⟨-, -, -, -, i4, i5, -, -, -, -⟩ := HB4.out _ s1; clear s1)
                  | (go_at_call 16; refine (HP4.out _ S1.out).mono ?_; rintro e x2 ⟨pa, pc, rfl, s2⟩; have S2 := hid (HO4.out _ s2); clear s2))
                go_roundw
                case rel => exact ⟨m + 1, by go_num, by have := HNn.out; omega, S2⟩
                case measure => simp [intOf]; have := HNn.out; omega
    · have zk : (A : Int) ≤ (m : Int) := by omega
      have e : m = A := by omega
      subst e
      obtain ⟨F, T, G, ng, hng, hp⟩ := HR.out
      have HT := hid hp.tt
      clear hp HR
      go_wp2_with fail
      go_ret
      exact ⟨rfl, HT.out⟩
theorem lawOne (w : World) (f : Int) (xs : List ActT) (v : Value) (hf : W64 f) (hv : SlM w v xs) (hw : ∀ a ∈ xs, WfA a) (hL : xs.length ≤ 1599289640354) : Calls Try.prog 3 #[.int .i64 f, v] w fun e w' => e = .returned (.bool true) ∧ Touch [] w w' := by
  cases hg : mayF' f
  · rcases hv with ⟨_, a, c, e⟩ | ⟨b, off, cap, e, _⟩
    · exact lawOne_no w f v a 0 c e hg
    · exact lawOne_no w f v _ _ cap e hg
  · exact lawOne_ok w f xs v hg hv hw hL
end Go.Proofs.Ytpihhlllembdeaa
