/- The contract of the document's takeEntry: the next entry, its key none of those ahead; the text's length is a number of the language's, the reader stands within the text. -/
import Derived.Test.YtpefbmheblfbeaaGreatQt09
namespace Go.Proofs.YtpefbmheblfbeaaGreat.Sn
open Go.RowKit Go.Sort Go.Shelf Me
set_option linter.unusedVariables false
set_option linter.unusedSimpArgs false
def DeE (e : Ending) (w w' : World) (s : ByteArray) (en : Rd × En) : Prop := ∃ e1 : En, e = .returned (.tuple #[rv s en.1, nv e1]) ∧ (en.1.er = 0 → e1 = en.2) ∧ Touch [] w w'
theorem DeE.of {e : Ending} {w w' : World} {s : ByteArray} {en : Rd × En} (e1 : En) (h1 : e = .returned (.tuple #[rv s en.1, nv e1])) (h2 : en.1.er = 0 → e1 = en.2) (h3 : Touch [] w w') : DeE e w w' s en := ⟨e1, h1, h2, h3⟩
set_option maxRecDepth 20000 in
set_option maxHeartbeats 8000000 in
theorem dent_ {w : World} {s : ByteArray} {x : Rd} {A : List K} {B : Nat} {v : Value} (hi : Rin s x) (hs : s.size ≤ 140737488351232) (hA : A.length ≤ 70000) (hv : w.ownsRow B 83 2 v A.length (kcs A)) (c : Cf) (hc : 0 ≤ c.t ∧ 0 ≤ c.n) (now : Int) (hn : 0 ≤ now ∧ now ≤ 9223372036854775807) : Calls Tryz.prog 51 #[rv s x, cv c, .int .i64 now, v] w fun e w' => DeE e w w' s (entR s x c now A) := by
  obtain ⟨a, cp, rfl⟩ := own_form hv
  obtain ⟨V1, hV1⟩ : ∃ V1, V1 = w.alloc (.cells #[.string s, .int .i64 x.at_, .int .i64 x.er] 113) := ⟨_, rfl⟩
  have sV1 : V1.heap.size = w.heap.size + 1 := by rw [hV1]; simp
  have tV1 : Touch [] w V1 := by rw [hV1]; exact (Touch.refl _ _).alloc _
  have aV1 := heap_alloc_new w (.cells #[.string s, .int .i64 x.at_, .int .i64 x.er] 113)
  rw [← hV1] at aV1
  obtain ⟨V2, hV2⟩ : ∃ V2, V2 = V1.alloc (.cells #[.int .i64 c.t, .int .i64 c.n, .int .i64 c.s, .int .i64 c.e, .int .i64 c.f, .int .i64 c.b, .int .i64 c.d] 29) := ⟨_, rfl⟩
  have sV2 : V2.heap.size = V1.heap.size + 1 := by rw [hV2]; simp
  have tV2 : Touch [] V1 V2 := by rw [hV2]; exact (Touch.refl _ _).alloc _
  have aV2 := heap_alloc_new V1 (.cells #[.int .i64 c.t, .int .i64 c.n, .int .i64 c.s, .int .i64 c.e, .int .i64 c.f, .int .i64 c.b, .int .i64 c.d] 29)
  rw [← hV2] at aV2
  obtain ⟨V3, hV3⟩ : ∃ V3, V3 = V2.alloc (.cells #[.string ⟨#[]⟩, .int .i64 0, .int .i64 0] 113) := ⟨_, rfl⟩
  have sV3 : V3.heap.size = V2.heap.size + 1 := by rw [hV3]; simp
  have tV3 : Touch [] V2 V3 := by rw [hV3]; exact (Touch.refl _ _).alloc _
  have aV3 := heap_alloc_new V2 (.cells #[.string ⟨#[]⟩, .int .i64 0, .int .i64 0] 113)
  rw [← hV3] at aV3
  obtain ⟨V4, hV4⟩ : ∃ V4, V4 = V3.alloc (.cells #[.int .u16 0, .string ⟨#[]⟩, .int .i64 0, .int .i64 0, .int .i64 0, .int .i64 0, .int .i64 0] 88) := ⟨_, rfl⟩
  have sV4 : V4.heap.size = V3.heap.size + 1 := by rw [hV4]; simp
  have tV4 : Touch [] V3 V4 := by rw [hV4]; exact (Touch.refl _ _).alloc _
  have aV4 := heap_alloc_new V3 (.cells #[.int .u16 0, .string ⟨#[]⟩, .int .i64 0, .int .i64 0, .int .i64 0, .int .i64 0, .int .i64 0] 88)
  rw [← hV4] at aV4
  obtain ⟨V, hV⟩ : ∃ V, V = V4.alloc (.cells #[.int .u16 0, .string ⟨#[]⟩, .int .i64 0, .int .i64 0, .int .i64 0, .int .i64 0, .int .i64 0] 88) := ⟨_, rfl⟩
  have sV : V.heap.size = V4.heap.size + 1 := by rw [hV]; simp
  have tV : Touch [] V4 V := by rw [hV]; exact (Touch.refl _ _).alloc _
  have aV := heap_alloc_new V4 (.cells #[.int .u16 0, .string ⟨#[]⟩, .int .i64 0, .int .i64 0, .int .i64 0, .int .i64 0, .int .i64 0] 88)
  rw [← hV] at aV
  have tb0 : Tb w V V1.heap.size V2.heap.size V3.heap.size V4.heap.size s x c ((0, ⟨#[]⟩), ((0, 0, 0, 0), 0)) :=
    ⟨(((tV1.trans' tV2).trans' tV3).trans' tV4).trans' tV, ⟨(((tV2.trans' tV3).trans' tV4).trans' tV).keep aV1 (by simp), aV⟩, ((tV3.trans' tV4).trans' tV).keep aV2 (by simp), (tV4.trans' tV).keep aV3 (by simp), tV.keep aV4 (by simp), by omega⟩
  have HSZ := hid (And.intro sV1 (And.intro sV2 (And.intro sV3 sV4)))
  clear sV1 sV2 sV3 sV4 sV tV1 tV2 tV3 tV4 tV aV1 aV2 aV3 aV4 aV
  have HK := hid (fun w' (t : Touch [] w w') => dkey_ (w := w') hi hs hA (own_touch hv t (fun _ _ e => by cases e)))
  have HN1 := hid (fun w' => dnum_ w' s (keyR s x A).1 (hi.key A) hs 0 now (by omega) hn.1)
  obtain ⟨en, hen⟩ : ∃ en, en = entR s x c now A := ⟨_, rfl⟩
  have HEN := hid hen
  rw [← hen]
  clear hen
  obtain ⟨k1, hk1⟩ : ∃ k1, k1 = keyR s x A := ⟨_, rfl⟩
  rw [← hk1] at HK HN1
  have HK1 := hid hk1
  obtain ⟨n1, hn1⟩ : ∃ n1, n1 = numR s k1.1 0 now := ⟨_, rfl⟩
  rw [← hn1] at HN1
  have HNE := hid hn1
  obtain ⟨kk, hkk⟩ : ∃ kk, kk = k1.2 := ⟨_, rfl⟩
  rw [← hkk] at HK
  have HTB := hid tb0
  have HIN := hid ((hi.key A).num 0 now)
  rw [← hk1, ← hn1] at HIN
  have HSS := hid hs
  clear tb0 hk1 hn1 hi hs hA hv
  unfold rv at *
  unfold cv
  unfold kv at HK
  obtain ⟨N, hN⟩ : ∃ N, N = A.length := ⟨_, rfl⟩
  rw [← hN] at HK
  rw [← hN]
  clear hN
  go_enter Tryz.func51, Tryz.ntmps51
  go_upto_region 2 with fail
  obtain ⟨s1, s2, s3, s4⟩ := HSZ.out
  obtain ⟨b1, hb1⟩ : ∃ b1, b1 = w.heap.size + 1 := ⟨_, rfl⟩
  obtain ⟨b2, hb2⟩ : ∃ b2, b2 = b1 + 1 := ⟨_, rfl⟩
  obtain ⟨b3, hb3⟩ : ∃ b3, b3 = b2 + 1 := ⟨_, rfl⟩
  obtain ⟨xb, hxb⟩ : ∃ xb, xb = b3 + 1 := ⟨_, rfl⟩
  have HT0 : Hid (Tb w V b1 b2 b3 xb s x c ((0, ⟨#[]⟩), ((0, 0, 0, 0), 0))) := hid (by
    rw [show b1 = V1.heap.size by omega, show b2 = V2.heap.size by omega, show b3 = V3.heap.size by omega, show xb = V4.heap.size by omega]
    exact HTB.out)
  rw [← hV1, ← hV2, ← hV3, ← hV4, ← hV, ← hb1, ← hb2, ← hb3, ← hxb]
  clear hV1 hV2 hV3 hV4 hV hb1 hb2 hb3 hxb s1 s2 s3 s4 HSZ HTB
  have x0 := HT0.out.q.r0
  have x1 := HT0.out.q.r1
  have x2 := HT0.out.q.r2
  go_upto_region 3 with (go_at_call 69; refine (HK.out _ HT0.out.t).mono ?_; rintro e w1 ⟨rfl, t1⟩; have HT1 := hid (HT0.out.call t1); have m0 := cell_of (n := 0) HT1.out.q.1 rfl; have m1 := cell_of (n := 1) HT1.out.q.1 rfl; have m2 := cell_of (n := 2) HT1.out.q.1 rfl; have f0 := froz_at HT1.out.q.1 0; have f1 := froz_at HT1.out.q.1 1; have f2 := froz_at HT1.out.q.1 2; have HS1 := HT1.out.setR k1.1 rfl; have y0 := cell_of (n := 0) HS1.q.2 rfl; have y1 := cell_of (n := 1) HS1.q.2 rfl; have l0 := froz_at HS1.q.2 0; have l1 := froz_at HS1.q.2 1)
  obtain ⟨W2, hW2⟩ : ∃ W2, W2 = (((((w1.setCell ⟨w.heap.size, 0, none⟩ (.string s)).setCell ⟨w.heap.size, 1, none⟩ (.int .i64 k1.1.at_)).setCell ⟨w.heap.size, 2, none⟩ (.int .i64 k1.1.er)).setCell ⟨xb, 0, none⟩ (.int .u16 k1.2.1)).setCell ⟨xb, 1, none⟩ (.string k1.2.2)) := ⟨_, rfl⟩
  have HT2 := hid (HS1.key k1.2 hW2)
  rw [← hW2]
  clear hW2 HS1 HT1 HT0 m0 m1 m2 f0 f1 f2 y0 y1 l0 l1 x0 x1 x2 t1 HK
  have HNV : Hid (0 ≤ n1.2 ∧ n1.2 ≤ now) := hid (by rw [HNE.out]; exact numR_v (by omega) hn.1)
  have x0 := HT2.out.q.r0
  have x1 := HT2.out.q.r1
  have x2 := HT2.out.q.r2
  have wn : IntKind.u64.wrap now = now := by rw [IntKind.wrap_u64]; omega
  have wv : IntKind.i64.wrap n1.2 = n1.2 := by have := HNV.out; rw [IntKind.wrap_i64]; omega
  go_upto_region 5 with (go_at_call 50; refine (HN1.out _).mono ?_; rintro e w3 ⟨rfl, t3⟩; have HT3 := hid (HT2.out.call t3); have m0 := cell_of (n := 0) HT3.out.q.1 rfl; have m1 := cell_of (n := 1) HT3.out.q.1 rfl; have m2 := cell_of (n := 2) HT3.out.q.1 rfl; have f0 := froz_at HT3.out.q.1 0; have f1 := froz_at HT3.out.q.1 1; have f2 := froz_at HT3.out.q.1 2; have HS3 := HT3.out.setR n1.1 rfl; have y6 := cell_of (n := 6) HS3.q.2 rfl; have l6 := froz_at HS3.q.2 6)
  obtain ⟨W4, hW4⟩ : ∃ W4, W4 = (((w3.setCell ⟨w.heap.size, 0, none⟩ (.string s)).setCell ⟨w.heap.size, 1, none⟩ (.int .i64 n1.1.at_)).setCell ⟨w.heap.size, 2, none⟩ (.int .i64 n1.1.er)).setCell ⟨xb, 6, none⟩ (.int .i64 n1.2) := ⟨_, rfl⟩
  obtain ⟨e4, he4⟩ : ∃ e4 : En, e4 = (k1.2, ((0, 0, 0, 0), n1.2)) := ⟨_, rfl⟩
  have HT4 : Hid (Tb w W4 b1 b2 b3 xb s n1.1 c e4) := hid (by rw [he4]; exact HS3.time n1.2 hW4)
  have HE4 := hid he4
  rw [← hW4]
  clear hW4 he4 HS3 HT3 HT2 m0 m1 m2 f0 f1 f2 y6 l6 x0 x1 x2 t3 HN1 wn wv
  have x1 := HT4.out.q.r1
  have x2 := HT4.out.q.r2
  have x0 := HT4.out.q.r0
  by_cases he : n1.1.er = 0
  · have hb : (n1.1.er != 0) = false := by simpa using he
    have hb' : (n1.1.er == 0) = true := by simpa using he
    have HOU : Hid (en.1 = (outR s n1.1 c).1 ∧ en.2 = (k1.2, ((outR s n1.1 c).2, n1.2))) := hid (by
      rw [HEN.out]
      unfold entR
      rw [← HK1.out, ← HNE.out]
      exact ⟨rfl, rfl⟩)
    have f2 := froz_at HT4.out.q.1 2
    by_cases hlt : (s.size : Int) ≤ n1.1.at_
    · obtain ⟨y5, hy5⟩ : ∃ y5 : Rd, y5 = ⟨n1.1.at_, 200⟩ := ⟨_, rfl⟩
      have HX : Hid (en.1 = y5) := hid (by
        rw [HOU.out.1, outR_end he c (by omega), hy5])
      have HY5 := hid hy5
      clear hy5
      go_upto_region 9 with fail
      obtain ⟨W5, hW5⟩ : ∃ W5, W5 = W4.setCell ⟨w.heap.size, 2, none⟩ (.int .i64 200) := ⟨_, rfl⟩
      have HT5 : Hid (Tb w W5 b1 b2 b3 xb s y5 c e4) := hid (by rw [HY5.out]; exact HT4.out.err 200 hW5)
      rw [← hW5]
      clear hW5 x0 x1 x2 f2 hb hb'
      obtain ⟨l1, l2, l3, l4⟩ := HT5.out.lt
      have HL := hid (And.intro l1 (And.intro l2 (And.intro l3 l4)))
      have HE1 := hid (HT5.out.q.e1 HT5.out.g2 HT5.out.g3 (by omega) (by omega) (by omega))
      have HE2 := hid (TeS.e2 (h := w.heap.size) (xb := xb) (b2 := b2) (b3 := b3) (s := s) (y := y5) (e := e4) (by omega) (by omega) (by omega))
      have g4 := HT5.out.g2
      have s0 := HT5.out.q
      have HTW := hid HT5.out.t
      refine wp_region_H (S := fun w' => TeS w' w.heap.size xb s y5 e4) (by kernel_rfl) ?_
      have X0 : ∀ w' : World, TeS w' w.heap.size xb s y5 e4 → w'.cell? ⟨w.heap.size, 0, none⟩ = some (.string s) := fun w' h => h.r0
      have X1 : ∀ w' : World, TeS w' w.heap.size xb s y5 e4 → w'.cell? ⟨w.heap.size, 1, none⟩ = some (.int .i64 y5.at_) := fun w' h => h.r1
      have X2 : ∀ w' : World, TeS w' w.heap.size xb s y5 e4 → w'.cell? ⟨w.heap.size, 2, none⟩ = some (.int .i64 y5.er) := fun w' h => h.r2
      have Y0 : ∀ w' : World, TeS w' w.heap.size xb s y5 e4 → w'.cell? ⟨xb, 0, none⟩ = some (.int .u16 e4.1.1) := fun w' h => h.x0
      have Y1 : ∀ w' : World, TeS w' w.heap.size xb s y5 e4 → w'.cell? ⟨xb, 1, none⟩ = some (.string e4.1.2) := fun w' h => h.x1
      have Y2 : ∀ w' : World, TeS w' w.heap.size xb s y5 e4 → w'.cell? ⟨xb, 2, none⟩ = some (.int .i64 e4.2.1.1) := fun w' h => h.x2
      have Y3 : ∀ w' : World, TeS w' w.heap.size xb s y5 e4 → w'.cell? ⟨xb, 3, none⟩ = some (.int .i64 e4.2.1.2.1) := fun w' h => h.x3
      have Y4 : ∀ w' : World, TeS w' w.heap.size xb s y5 e4 → w'.cell? ⟨xb, 4, none⟩ = some (.int .i64 e4.2.1.2.2.1) := fun w' h => h.x4
      have Y5 : ∀ w' : World, TeS w' w.heap.size xb s y5 e4 → w'.cell? ⟨xb, 5, none⟩ = some (.int .i64 e4.2.1.2.2.2) := fun w' h => h.x5
      have Y6 : ∀ w' : World, TeS w' w.heap.size xb s y5 e4 → w'.cell? ⟨xb, 6, none⟩ = some (.int .i64 e4.2.2) := fun w' h => h.x6
      clear l1 l2 l3 l4
      refine wpH_take (i := 0) (v := (.agg #[.string s, .int .i64 y5.at_, .int .i64 y5.er])) (some 45) rfl rfl (by kernel_rfl) (by kernel_rfl) (by kernel_rfl) (fun _ _ _ h => h) (Or.inl ⟨by rfl, fun w' hS => (by have z0 := X0 _ hS; have z1 := X1 _ hS; have z2 := X2 _ hS; go_simp)⟩) s0 ?_
      try simp only [Go.Act.put, List.setIfInBounds_toArray, List.set_cons_zero, List.set_cons_succ]
      refine wpH_take (i := 1) (v := (.agg #[.int .u16 e4.1.1, .string e4.1.2, .int .i64 e4.2.1.1, .int .i64 e4.2.1.2.1, .int .i64 e4.2.1.2.2.1, .int .i64 e4.2.1.2.2.2, .int .i64 e4.2.2])) (some 46) rfl rfl (by kernel_rfl) (by kernel_rfl) (by kernel_rfl) (fun _ _ _ h => h) (Or.inl ⟨by rfl, fun w' hS => (by have z0 := Y0 _ hS; have z1 := Y1 _ hS; have z2 := Y2 _ hS; have z3 := Y3 _ hS; have z4 := Y4 _ hS; have z5 := Y5 _ hS; have z6 := Y6 _ hS; go_simp)⟩) s0 ?_
      try simp only [Go.Act.put, List.setIfInBounds_toArray, List.set_cons_zero, List.set_cons_succ]
      refine wpH_call (i := 2) (o := { dst := none, op := Op.store 113 (Operand.tmp 8) (Operand.tmp 45), type := 0, pos := _, after := #[{ on := 0, ground := Ground.data }, { on := 0, ground := Ground.phase }, { on := 1, ground := Ground.textOnly Departure.lateStores }], guard := none }) (by kernel_rfl) rfl (fun K' hK => ?_)
      rw [if_pos (by rfl)]
      have m0 := cell_of (n := 0) g4 rfl
      have m1 := cell_of (n := 1) g4 rfl
      have m2 := cell_of (n := 2) g4 rfl
      have f0 := froz_at g4 0
      have f1 := froz_at g4 1
      have f2 := froz_at g4 2
      go_simp
      clear m0 m1 m2 f0 f1 f2
      obtain ⟨E1, hE1⟩ : ∃ E1, E1 = (((W5).setCell ⟨b2, 0, none⟩ (.string s)).setCell ⟨b2, 1, none⟩ (.int .i64 y5.at_)).setCell ⟨b2, 2, none⟩ (.int .i64 y5.er) := ⟨_, rfl⟩
      rw [← hE1]
      obtain ⟨s1, g5, h4, te1⟩ := HE1.out E1 hE1
      clear hE1
      refine hK.out _ _ s1 ?_
      clear hK
      try simp only [Go.Act.put, List.setIfInBounds_toArray, List.set_cons_zero, List.set_cons_succ]
      refine wpH_call (i := 3) (o := { dst := none, op := Op.store 88 (Operand.tmp 9) (Operand.tmp 46), type := 0, pos := _, after := #[{ on := 1, ground := Ground.data }, { on := 2, ground := Ground.chain }, { on := 0, ground := Ground.phase }, { on := 1, ground := Ground.phase }, { on := 2, ground := Ground.phase }], guard := none }) (by kernel_rfl) rfl (fun K' hK => ?_)
      rw [if_pos (by rfl)]
      have m0 := cell_of (n := 0) g5 rfl
      have m1 := cell_of (n := 1) g5 rfl
      have m2 := cell_of (n := 2) g5 rfl
      have m3 := cell_of (n := 3) g5 rfl
      have m4 := cell_of (n := 4) g5 rfl
      have m5 := cell_of (n := 5) g5 rfl
      have m6 := cell_of (n := 6) g5 rfl
      have f0 := froz_at g5 0
      have f1 := froz_at g5 1
      have f2 := froz_at g5 2
      have f3 := froz_at g5 3
      have f4 := froz_at g5 4
      have f5 := froz_at g5 5
      have f6 := froz_at g5 6
      go_simp
      clear m0 m1 m2 m3 m4 m5 m6 f0 f1 f2 f3 f4 f5 f6
      obtain ⟨E2, hE2⟩ : ∃ E2, E2 = (((((((E1).setCell ⟨b3, 0, none⟩ (.int .u16 e4.1.1)).setCell ⟨b3, 1, none⟩ (.string e4.1.2)).setCell ⟨b3, 2, none⟩ (.int .i64 e4.2.1.1)).setCell ⟨b3, 3, none⟩ (.int .i64 e4.2.1.2.1)).setCell ⟨b3, 4, none⟩ (.int .i64 e4.2.1.2.2.1)).setCell ⟨b3, 5, none⟩ (.int .i64 e4.2.1.2.2.2)).setCell ⟨b3, 6, none⟩ (.int .i64 e4.2.2) := ⟨_, rfl⟩
      rw [← hE2]
      obtain ⟨s2, h5, h4b, te2⟩ := HE2.out E1 E2 s1 g5 h4 hE2
      clear hE2
      refine hK.out _ _ s2 ?_
      clear hK
      try simp only [Go.Act.put, List.setIfInBounds_toArray, List.set_cons_zero, List.set_cons_succ]
      refine wpAnyH_done (by kernel_rfl) ?_ _
      go_wp2_with fail
      have u0 : E2.cell? ⟨b2, 0, none⟩ = some (.string s) := cell_of h4b rfl
      have u1 : E2.cell? ⟨b2, 1, none⟩ = some (.int .i64 y5.at_) := cell_of h4b rfl
      have u2 : E2.cell? ⟨b2, 2, none⟩ = some (.int .i64 y5.er) := cell_of h4b rfl
      have v0 : E2.cell? ⟨b3, 0, none⟩ = some (.int .u16 e4.1.1) := cell_of h5 rfl
      have v1 : E2.cell? ⟨b3, 1, none⟩ = some (.string e4.1.2) := cell_of h5 rfl
      have v2 : E2.cell? ⟨b3, 2, none⟩ = some (.int .i64 e4.2.1.1) := cell_of h5 rfl
      have v3 : E2.cell? ⟨b3, 3, none⟩ = some (.int .i64 e4.2.1.2.1) := cell_of h5 rfl
      have v4 : E2.cell? ⟨b3, 4, none⟩ = some (.int .i64 e4.2.1.2.2.1) := cell_of h5 rfl
      have v5 : E2.cell? ⟨b3, 5, none⟩ = some (.int .i64 e4.2.1.2.2.2) := cell_of h5 rfl
      have v6 : E2.cell? ⟨b3, 6, none⟩ = some (.int .i64 e4.2.2) := cell_of h5 rfl
      exact bodyPost_ret (v := .tuple #[.agg #[.string s, .int .i64 y5.at_, .int .i64 y5.er], .agg #[.int .u16 e4.1.1, .string e4.1.2, .int .i64 e4.2.1.1, .int .i64 e4.2.1.2.1, .int .i64 e4.2.1.2.2.1, .int .i64 e4.2.1.2.2.2, .int .i64 e4.2.2]]) (by simp [results, Tryz.results51, go_sem, u0, u1, u2, v0, v1, v2, v3, v4, v5, v6]) rfl (DeE.of e4 (by rw [HX.out]; rfl) (fun hz => by rw [HX.out, HY5.out] at hz; simp at hz) ((HTW.out.trans te1 (fun k hk => by simp at hk; have := HL.out; omega)).trans te2 (fun k hk => by simp at hk; have := HL.out; omega)).drew)
    · obtain ⟨k, hk⟩ : ∃ k : Nat, n1.1.at_ = (k : Int) := ⟨n1.1.at_.toNat, by have := HIN.out.1; omega⟩
      have hks : k < s.size := by omega
      obtain ⟨b, hbb⟩ : ∃ b, s[k] = b := ⟨_, rfl⟩
      have HB : Hid (s.data.toList[n1.1.at_.toNat]? = some b) := hid (by
        rw [show n1.1.at_.toNat = k by omega, List.getElem?_eq_getElem (by simpa using hks), ← hbb]; rfl)
      have HKE := hid hk
      rw [hk] at x1
      have z1 : (k : Int) < (s.size : Int) := by omega
      have z1' : ¬ (s.size : Int) ≤ (k : Int) := by omega
      have z0 : (0 : Int) ≤ (k : Int) := by omega
      have HBb := hid b.toNat_lt
      have wb : IntKind.i64.wrap (b.toNat : Int) = (b.toNat : Int) := by rw [IntKind.wrap_i64]; have := HBb.out; omega
      have q0 := cell_of (n := 0) HT4.out.k rfl
      have q1 := cell_of (n := 1) HT4.out.k rfl
      clear hlt hk
      go_upto_region 11 with fail
      by_cases hm : (2 : Int) < (b.toNat : Int)
      · obtain ⟨y5, hy5⟩ : ∃ y5 : Rd, y5 = ⟨n1.1.at_, 200⟩ := ⟨_, rfl⟩
        have HX : Hid (en.1 = y5) := hid (by
          rw [HOU.out.1, outR_kind he c HB.out (by unfold keepB; rw [if_neg (by omega), if_neg (by omega)]), hy5])
        have HY5 := hid hy5
        clear hy5
        go_upto_region 13 with fail
        obtain ⟨W5, hW5⟩ : ∃ W5, W5 = W4.setCell ⟨w.heap.size, 2, none⟩ (.int .i64 200) := ⟨_, rfl⟩
        have HT5 : Hid (Tb w W5 b1 b2 b3 xb s y5 c e4) := hid (by rw [HY5.out]; exact HT4.out.err 200 hW5)
        rw [← hW5]
        clear hW5 x0 x1 x2 f2 hb hb' q0 q1 z1 z1' z0 wb hm hbb
        obtain ⟨l1, l2, l3, l4⟩ := HT5.out.lt
        have HL := hid (And.intro l1 (And.intro l2 (And.intro l3 l4)))
        have HE1 := hid (HT5.out.q.e1 HT5.out.g2 HT5.out.g3 (by omega) (by omega) (by omega))
        have HE2 := hid (TeS.e2 (h := w.heap.size) (xb := xb) (b2 := b2) (b3 := b3) (s := s) (y := y5) (e := e4) (by omega) (by omega) (by omega))
        have g4 := HT5.out.g2
        have s0 := HT5.out.q
        have HTW := hid HT5.out.t
        refine wp_region_H (S := fun w' => TeS w' w.heap.size xb s y5 e4) (by kernel_rfl) ?_
        have X0 : ∀ w' : World, TeS w' w.heap.size xb s y5 e4 → w'.cell? ⟨w.heap.size, 0, none⟩ = some (.string s) := fun w' h => h.r0
        have X1 : ∀ w' : World, TeS w' w.heap.size xb s y5 e4 → w'.cell? ⟨w.heap.size, 1, none⟩ = some (.int .i64 y5.at_) := fun w' h => h.r1
        have X2 : ∀ w' : World, TeS w' w.heap.size xb s y5 e4 → w'.cell? ⟨w.heap.size, 2, none⟩ = some (.int .i64 y5.er) := fun w' h => h.r2
        have Y0 : ∀ w' : World, TeS w' w.heap.size xb s y5 e4 → w'.cell? ⟨xb, 0, none⟩ = some (.int .u16 e4.1.1) := fun w' h => h.x0
        have Y1 : ∀ w' : World, TeS w' w.heap.size xb s y5 e4 → w'.cell? ⟨xb, 1, none⟩ = some (.string e4.1.2) := fun w' h => h.x1
        have Y2 : ∀ w' : World, TeS w' w.heap.size xb s y5 e4 → w'.cell? ⟨xb, 2, none⟩ = some (.int .i64 e4.2.1.1) := fun w' h => h.x2
        have Y3 : ∀ w' : World, TeS w' w.heap.size xb s y5 e4 → w'.cell? ⟨xb, 3, none⟩ = some (.int .i64 e4.2.1.2.1) := fun w' h => h.x3
        have Y4 : ∀ w' : World, TeS w' w.heap.size xb s y5 e4 → w'.cell? ⟨xb, 4, none⟩ = some (.int .i64 e4.2.1.2.2.1) := fun w' h => h.x4
        have Y5 : ∀ w' : World, TeS w' w.heap.size xb s y5 e4 → w'.cell? ⟨xb, 5, none⟩ = some (.int .i64 e4.2.1.2.2.2) := fun w' h => h.x5
        have Y6 : ∀ w' : World, TeS w' w.heap.size xb s y5 e4 → w'.cell? ⟨xb, 6, none⟩ = some (.int .i64 e4.2.2) := fun w' h => h.x6
        clear l1 l2 l3 l4
        refine wpH_take (i := 0) (v := (.agg #[.string s, .int .i64 y5.at_, .int .i64 y5.er])) (some 74) rfl rfl (by kernel_rfl) (by kernel_rfl) (by kernel_rfl) (fun _ _ _ h => h) (Or.inl ⟨by rfl, fun w' hS => (by have z0 := X0 _ hS; have z1 := X1 _ hS; have z2 := X2 _ hS; go_simp)⟩) s0 ?_
        try simp only [Go.Act.put, List.setIfInBounds_toArray, List.set_cons_zero, List.set_cons_succ]
        refine wpH_take (i := 1) (v := (.agg #[.int .u16 e4.1.1, .string e4.1.2, .int .i64 e4.2.1.1, .int .i64 e4.2.1.2.1, .int .i64 e4.2.1.2.2.1, .int .i64 e4.2.1.2.2.2, .int .i64 e4.2.2])) (some 75) rfl rfl (by kernel_rfl) (by kernel_rfl) (by kernel_rfl) (fun _ _ _ h => h) (Or.inl ⟨by rfl, fun w' hS => (by have z0 := Y0 _ hS; have z1 := Y1 _ hS; have z2 := Y2 _ hS; have z3 := Y3 _ hS; have z4 := Y4 _ hS; have z5 := Y5 _ hS; have z6 := Y6 _ hS; go_simp)⟩) s0 ?_
        try simp only [Go.Act.put, List.setIfInBounds_toArray, List.set_cons_zero, List.set_cons_succ]
        refine wpH_call (i := 2) (o := { dst := none, op := Op.store 113 (Operand.tmp 8) (Operand.tmp 74), type := 0, pos := _, after := #[{ on := 0, ground := Ground.data }, { on := 0, ground := Ground.phase }, { on := 1, ground := Ground.textOnly Departure.lateStores }], guard := none }) (by kernel_rfl) rfl (fun K' hK => ?_)
        rw [if_pos (by rfl)]
        have m0 := cell_of (n := 0) g4 rfl
        have m1 := cell_of (n := 1) g4 rfl
        have m2 := cell_of (n := 2) g4 rfl
        have f0 := froz_at g4 0
        have f1 := froz_at g4 1
        have f2 := froz_at g4 2
        go_simp
        clear m0 m1 m2 f0 f1 f2
        obtain ⟨E1, hE1⟩ : ∃ E1, E1 = (((W5).setCell ⟨b2, 0, none⟩ (.string s)).setCell ⟨b2, 1, none⟩ (.int .i64 y5.at_)).setCell ⟨b2, 2, none⟩ (.int .i64 y5.er) := ⟨_, rfl⟩
        rw [← hE1]
        obtain ⟨s1, g5, h4, te1⟩ := HE1.out E1 hE1
        clear hE1
        refine hK.out _ _ s1 ?_
        clear hK
        try simp only [Go.Act.put, List.setIfInBounds_toArray, List.set_cons_zero, List.set_cons_succ]
        refine wpH_call (i := 3) (o := { dst := none, op := Op.store 88 (Operand.tmp 9) (Operand.tmp 75), type := 0, pos := _, after := #[{ on := 1, ground := Ground.data }, { on := 2, ground := Ground.chain }, { on := 0, ground := Ground.phase }, { on := 1, ground := Ground.phase }, { on := 2, ground := Ground.phase }], guard := none }) (by kernel_rfl) rfl (fun K' hK => ?_)
        rw [if_pos (by rfl)]
        have m0 := cell_of (n := 0) g5 rfl
        have m1 := cell_of (n := 1) g5 rfl
        have m2 := cell_of (n := 2) g5 rfl
        have m3 := cell_of (n := 3) g5 rfl
        have m4 := cell_of (n := 4) g5 rfl
        have m5 := cell_of (n := 5) g5 rfl
        have m6 := cell_of (n := 6) g5 rfl
        have f0 := froz_at g5 0
        have f1 := froz_at g5 1
        have f2 := froz_at g5 2
        have f3 := froz_at g5 3
        have f4 := froz_at g5 4
        have f5 := froz_at g5 5
        have f6 := froz_at g5 6
        go_simp
        clear m0 m1 m2 m3 m4 m5 m6 f0 f1 f2 f3 f4 f5 f6
        obtain ⟨E2, hE2⟩ : ∃ E2, E2 = (((((((E1).setCell ⟨b3, 0, none⟩ (.int .u16 e4.1.1)).setCell ⟨b3, 1, none⟩ (.string e4.1.2)).setCell ⟨b3, 2, none⟩ (.int .i64 e4.2.1.1)).setCell ⟨b3, 3, none⟩ (.int .i64 e4.2.1.2.1)).setCell ⟨b3, 4, none⟩ (.int .i64 e4.2.1.2.2.1)).setCell ⟨b3, 5, none⟩ (.int .i64 e4.2.1.2.2.2)).setCell ⟨b3, 6, none⟩ (.int .i64 e4.2.2) := ⟨_, rfl⟩
        rw [← hE2]
        obtain ⟨s2, h5, h4b, te2⟩ := HE2.out E1 E2 s1 g5 h4 hE2
        clear hE2
        refine hK.out _ _ s2 ?_
        clear hK
        try simp only [Go.Act.put, List.setIfInBounds_toArray, List.set_cons_zero, List.set_cons_succ]
        refine wpAnyH_done (by kernel_rfl) ?_ _
        go_wp2_with fail
        have u0 : E2.cell? ⟨b2, 0, none⟩ = some (.string s) := cell_of h4b rfl
        have u1 : E2.cell? ⟨b2, 1, none⟩ = some (.int .i64 y5.at_) := cell_of h4b rfl
        have u2 : E2.cell? ⟨b2, 2, none⟩ = some (.int .i64 y5.er) := cell_of h4b rfl
        have v0 : E2.cell? ⟨b3, 0, none⟩ = some (.int .u16 e4.1.1) := cell_of h5 rfl
        have v1 : E2.cell? ⟨b3, 1, none⟩ = some (.string e4.1.2) := cell_of h5 rfl
        have v2 : E2.cell? ⟨b3, 2, none⟩ = some (.int .i64 e4.2.1.1) := cell_of h5 rfl
        have v3 : E2.cell? ⟨b3, 3, none⟩ = some (.int .i64 e4.2.1.2.1) := cell_of h5 rfl
        have v4 : E2.cell? ⟨b3, 4, none⟩ = some (.int .i64 e4.2.1.2.2.1) := cell_of h5 rfl
        have v5 : E2.cell? ⟨b3, 5, none⟩ = some (.int .i64 e4.2.1.2.2.2) := cell_of h5 rfl
        have v6 : E2.cell? ⟨b3, 6, none⟩ = some (.int .i64 e4.2.2) := cell_of h5 rfl
        exact bodyPost_ret (v := .tuple #[.agg #[.string s, .int .i64 y5.at_, .int .i64 y5.er], .agg #[.int .u16 e4.1.1, .string e4.1.2, .int .i64 e4.2.1.1, .int .i64 e4.2.1.2.1, .int .i64 e4.2.1.2.2.1, .int .i64 e4.2.1.2.2.2, .int .i64 e4.2.2]]) (by simp [results, Tryz.results51, go_sem, u0, u1, u2, v0, v1, v2, v3, v4, v5, v6]) rfl (DeE.of e4 (by rw [HX.out]; rfl) (fun hz => by rw [HX.out, HY5.out] at hz; simp at hz) ((HTW.out.trans te1 (fun k hk => by simp at hk; have := HL.out; omega)).trans te2 (fun k hk => by simp at hk; have := HL.out; omega)).drew)
      · by_cases h0 : b.toNat = 0
        · have h0' : (b.toNat : Int) = 0 := by omega
          by_cases hct : c.t = 0
          · rw [hct] at q0
            obtain ⟨y5, hy5⟩ : ∃ y5 : Rd, y5 = ⟨n1.1.at_, 200⟩ := ⟨_, rfl⟩
            have HX : Hid (en.1 = y5) := hid (by
              rw [HOU.out.1, outR_kind he c HB.out (by unfold keepB; rw [if_pos h0, hct]; rfl), hy5])
            have HY5 := hid hy5
            clear hy5
            go_upto_region 13 with fail
            obtain ⟨W5, hW5⟩ : ∃ W5, W5 = W4.setCell ⟨w.heap.size, 2, none⟩ (.int .i64 200) := ⟨_, rfl⟩
            have HT5 : Hid (Tb w W5 b1 b2 b3 xb s y5 c e4) := hid (by rw [HY5.out]; exact HT4.out.err 200 hW5)
            rw [← hW5]
            clear hW5 x0 x1 x2 f2 hb hb' q0 q1 z1 z1' z0 wb hbb
            obtain ⟨l1, l2, l3, l4⟩ := HT5.out.lt
            have HL := hid (And.intro l1 (And.intro l2 (And.intro l3 l4)))
            have HE1 := hid (HT5.out.q.e1 HT5.out.g2 HT5.out.g3 (by omega) (by omega) (by omega))
            have HE2 := hid (TeS.e2 (h := w.heap.size) (xb := xb) (b2 := b2) (b3 := b3) (s := s) (y := y5) (e := e4) (by omega) (by omega) (by omega))
            have g4 := HT5.out.g2
            have s0 := HT5.out.q
            have HTW := hid HT5.out.t
            refine wp_region_H (S := fun w' => TeS w' w.heap.size xb s y5 e4) (by kernel_rfl) ?_
            have X0 : ∀ w' : World, TeS w' w.heap.size xb s y5 e4 → w'.cell? ⟨w.heap.size, 0, none⟩ = some (.string s) := fun w' h => h.r0
            have X1 : ∀ w' : World, TeS w' w.heap.size xb s y5 e4 → w'.cell? ⟨w.heap.size, 1, none⟩ = some (.int .i64 y5.at_) := fun w' h => h.r1
            have X2 : ∀ w' : World, TeS w' w.heap.size xb s y5 e4 → w'.cell? ⟨w.heap.size, 2, none⟩ = some (.int .i64 y5.er) := fun w' h => h.r2
            have Y0 : ∀ w' : World, TeS w' w.heap.size xb s y5 e4 → w'.cell? ⟨xb, 0, none⟩ = some (.int .u16 e4.1.1) := fun w' h => h.x0
            have Y1 : ∀ w' : World, TeS w' w.heap.size xb s y5 e4 → w'.cell? ⟨xb, 1, none⟩ = some (.string e4.1.2) := fun w' h => h.x1
            have Y2 : ∀ w' : World, TeS w' w.heap.size xb s y5 e4 → w'.cell? ⟨xb, 2, none⟩ = some (.int .i64 e4.2.1.1) := fun w' h => h.x2
            have Y3 : ∀ w' : World, TeS w' w.heap.size xb s y5 e4 → w'.cell? ⟨xb, 3, none⟩ = some (.int .i64 e4.2.1.2.1) := fun w' h => h.x3
            have Y4 : ∀ w' : World, TeS w' w.heap.size xb s y5 e4 → w'.cell? ⟨xb, 4, none⟩ = some (.int .i64 e4.2.1.2.2.1) := fun w' h => h.x4
            have Y5 : ∀ w' : World, TeS w' w.heap.size xb s y5 e4 → w'.cell? ⟨xb, 5, none⟩ = some (.int .i64 e4.2.1.2.2.2) := fun w' h => h.x5
            have Y6 : ∀ w' : World, TeS w' w.heap.size xb s y5 e4 → w'.cell? ⟨xb, 6, none⟩ = some (.int .i64 e4.2.2) := fun w' h => h.x6
            clear l1 l2 l3 l4
            refine wpH_take (i := 0) (v := (.agg #[.string s, .int .i64 y5.at_, .int .i64 y5.er])) (some 74) rfl rfl (by kernel_rfl) (by kernel_rfl) (by kernel_rfl) (fun _ _ _ h => h) (Or.inl ⟨by rfl, fun w' hS => (by have z0 := X0 _ hS; have z1 := X1 _ hS; have z2 := X2 _ hS; go_simp)⟩) s0 ?_
            try simp only [Go.Act.put, List.setIfInBounds_toArray, List.set_cons_zero, List.set_cons_succ]
            refine wpH_take (i := 1) (v := (.agg #[.int .u16 e4.1.1, .string e4.1.2, .int .i64 e4.2.1.1, .int .i64 e4.2.1.2.1, .int .i64 e4.2.1.2.2.1, .int .i64 e4.2.1.2.2.2, .int .i64 e4.2.2])) (some 75) rfl rfl (by kernel_rfl) (by kernel_rfl) (by kernel_rfl) (fun _ _ _ h => h) (Or.inl ⟨by rfl, fun w' hS => (by have z0 := Y0 _ hS; have z1 := Y1 _ hS; have z2 := Y2 _ hS; have z3 := Y3 _ hS; have z4 := Y4 _ hS; have z5 := Y5 _ hS; have z6 := Y6 _ hS; go_simp)⟩) s0 ?_
            try simp only [Go.Act.put, List.setIfInBounds_toArray, List.set_cons_zero, List.set_cons_succ]
            refine wpH_call (i := 2) (o := { dst := none, op := Op.store 113 (Operand.tmp 8) (Operand.tmp 74), type := 0, pos := _, after := #[{ on := 0, ground := Ground.data }, { on := 0, ground := Ground.phase }, { on := 1, ground := Ground.textOnly Departure.lateStores }], guard := none }) (by kernel_rfl) rfl (fun K' hK => ?_)
            rw [if_pos (by rfl)]
            have m0 := cell_of (n := 0) g4 rfl
            have m1 := cell_of (n := 1) g4 rfl
            have m2 := cell_of (n := 2) g4 rfl
            have f0 := froz_at g4 0
            have f1 := froz_at g4 1
            have f2 := froz_at g4 2
            go_simp
            clear m0 m1 m2 f0 f1 f2
            obtain ⟨E1, hE1⟩ : ∃ E1, E1 = (((W5).setCell ⟨b2, 0, none⟩ (.string s)).setCell ⟨b2, 1, none⟩ (.int .i64 y5.at_)).setCell ⟨b2, 2, none⟩ (.int .i64 y5.er) := ⟨_, rfl⟩
            rw [← hE1]
            obtain ⟨s1, g5, h4, te1⟩ := HE1.out E1 hE1
            clear hE1
            refine hK.out _ _ s1 ?_
            clear hK
            try simp only [Go.Act.put, List.setIfInBounds_toArray, List.set_cons_zero, List.set_cons_succ]
            refine wpH_call (i := 3) (o := { dst := none, op := Op.store 88 (Operand.tmp 9) (Operand.tmp 75), type := 0, pos := _, after := #[{ on := 1, ground := Ground.data }, { on := 2, ground := Ground.chain }, { on := 0, ground := Ground.phase }, { on := 1, ground := Ground.phase }, { on := 2, ground := Ground.phase }], guard := none }) (by kernel_rfl) rfl (fun K' hK => ?_)
            rw [if_pos (by rfl)]
            have m0 := cell_of (n := 0) g5 rfl
            have m1 := cell_of (n := 1) g5 rfl
            have m2 := cell_of (n := 2) g5 rfl
            have m3 := cell_of (n := 3) g5 rfl
            have m4 := cell_of (n := 4) g5 rfl
            have m5 := cell_of (n := 5) g5 rfl
            have m6 := cell_of (n := 6) g5 rfl
            have f0 := froz_at g5 0
            have f1 := froz_at g5 1
            have f2 := froz_at g5 2
            have f3 := froz_at g5 3
            have f4 := froz_at g5 4
            have f5 := froz_at g5 5
            have f6 := froz_at g5 6
            go_simp
            clear m0 m1 m2 m3 m4 m5 m6 f0 f1 f2 f3 f4 f5 f6
            obtain ⟨E2, hE2⟩ : ∃ E2, E2 = (((((((E1).setCell ⟨b3, 0, none⟩ (.int .u16 e4.1.1)).setCell ⟨b3, 1, none⟩ (.string e4.1.2)).setCell ⟨b3, 2, none⟩ (.int .i64 e4.2.1.1)).setCell ⟨b3, 3, none⟩ (.int .i64 e4.2.1.2.1)).setCell ⟨b3, 4, none⟩ (.int .i64 e4.2.1.2.2.1)).setCell ⟨b3, 5, none⟩ (.int .i64 e4.2.1.2.2.2)).setCell ⟨b3, 6, none⟩ (.int .i64 e4.2.2) := ⟨_, rfl⟩
            rw [← hE2]
            obtain ⟨s2, h5, h4b, te2⟩ := HE2.out E1 E2 s1 g5 h4 hE2
            clear hE2
            refine hK.out _ _ s2 ?_
            clear hK
            try simp only [Go.Act.put, List.setIfInBounds_toArray, List.set_cons_zero, List.set_cons_succ]
            refine wpAnyH_done (by kernel_rfl) ?_ _
            go_wp2_with fail
            have u0 : E2.cell? ⟨b2, 0, none⟩ = some (.string s) := cell_of h4b rfl
            have u1 : E2.cell? ⟨b2, 1, none⟩ = some (.int .i64 y5.at_) := cell_of h4b rfl
            have u2 : E2.cell? ⟨b2, 2, none⟩ = some (.int .i64 y5.er) := cell_of h4b rfl
            have v0 : E2.cell? ⟨b3, 0, none⟩ = some (.int .u16 e4.1.1) := cell_of h5 rfl
            have v1 : E2.cell? ⟨b3, 1, none⟩ = some (.string e4.1.2) := cell_of h5 rfl
            have v2 : E2.cell? ⟨b3, 2, none⟩ = some (.int .i64 e4.2.1.1) := cell_of h5 rfl
            have v3 : E2.cell? ⟨b3, 3, none⟩ = some (.int .i64 e4.2.1.2.1) := cell_of h5 rfl
            have v4 : E2.cell? ⟨b3, 4, none⟩ = some (.int .i64 e4.2.1.2.2.1) := cell_of h5 rfl
            have v5 : E2.cell? ⟨b3, 5, none⟩ = some (.int .i64 e4.2.1.2.2.2) := cell_of h5 rfl
            have v6 : E2.cell? ⟨b3, 6, none⟩ = some (.int .i64 e4.2.2) := cell_of h5 rfl
            exact bodyPost_ret (v := .tuple #[.agg #[.string s, .int .i64 y5.at_, .int .i64 y5.er], .agg #[.int .u16 e4.1.1, .string e4.1.2, .int .i64 e4.2.1.1, .int .i64 e4.2.1.2.1, .int .i64 e4.2.1.2.2.1, .int .i64 e4.2.1.2.2.2, .int .i64 e4.2.2]]) (by simp [results, Tryz.results51, go_sem, u0, u1, u2, v0, v1, v2, v3, v4, v5, v6]) rfl (DeE.of e4 (by rw [HX.out]; rfl) (fun hz => by rw [HX.out, HY5.out] at hz; simp at hz) ((HTW.out.trans te1 (fun k hk => by simp at hk; have := HL.out; omega)).trans te2 (fun k hk => by simp at hk; have := HL.out; omega)).drew)
          · obtain ⟨y5, hy5⟩ : ∃ y5 : Rd, y5 = ⟨n1.1.at_ + 1, 0⟩ := ⟨_, rfl⟩
            have hct' : (c.t == 0) = false := by simpa using hct
            have HKP : Hid (keepB c b.toNat = true) := hid (by unfold keepB; rw [if_pos h0]; simp; have := hc.1; omega)
            have HOV := hid (outR_val he c HB.out HKP.out h0)
            rw [← hy5] at HOV
            have HY5 := hid hy5
            clear hy5
            have hy1 : (k : Int) + 1 ≤ 140737488351232 := by have := HSS.out; omega
            have HI5 : Hid (Rin s y5) := hid (by rw [HY5.out]; exact ⟨by have := HKE.out; show (0 : Int) ≤ n1.1.at_ + 1; omega, by have := HKE.out; show n1.1.at_ + 1 ≤ (s.size : Int); omega⟩)
            have wk : IntKind.i64.wrap ((k : Int) + 1) = (k : Int) + 1 := by rw [IntKind.wrap_i64]; omega
            have f1 := froz_at HT4.out.q.1 1
            have HEQ := hid he
            go_upto_region 15 with fail
            obtain ⟨W5, hW5⟩ : ∃ W5, W5 = W4.setCell ⟨w.heap.size, 1, none⟩ (.int .i64 ((k : Int) + 1)) := ⟨_, rfl⟩
            have HT5 : Hid (Tb w W5 b1 b2 b3 xb s y5 c e4) := hid (by rw [HY5.out, HKE.out, ← HEQ.out]; exact HT4.out.on ((k : Int) + 1) hW5)
            rw [← hW5]
            clear hW5 x0 x1 x2 f1 f2 hb hb' q0 q1 z1 z1' z0 wb hbb wk hy1
            have HN2 := hid (fun w' => dnum_ w' s y5 HI5.out HSS.out 0 18446744073709551615 (by omega) (by omega))
            obtain ⟨m1, hm1⟩ : ∃ m1, m1 = numR s y5 0 18446744073709551615 := ⟨_, rfl⟩
            rw [← hm1] at HN2
            have HM1 := hid hm1
            have HMV : Hid (0 ≤ m1.2 ∧ m1.2 ≤ 18446744073709551615) := hid (by rw [hm1]; exact numR_v (by omega) (by omega))
            have HI6 := hid (HI5.out.num 0 18446744073709551615)
            rw [← hm1] at HI6
            clear hm1
            unfold rv at HN2
            have x0 := HT5.out.q.r0
            have x1 := HT5.out.q.r1
            have x2 := HT5.out.q.r2
            go_upto_region 16 with (go_at_call 50; refine (HN2.out _).mono ?_; rintro e w5 ⟨rfl, t5⟩; have HTa := hid (HT5.out.call t5); have m0 := cell_of (n := 0) HTa.out.q.1 rfl; have m1' := cell_of (n := 1) HTa.out.q.1 rfl; have m2 := cell_of (n := 2) HTa.out.q.1 rfl; have f0 := froz_at HTa.out.q.1 0; have f1 := froz_at HTa.out.q.1 1; have f2 := froz_at HTa.out.q.1 2; clear x0 x1 x2)
            obtain ⟨W6, hW6⟩ : ∃ W6, W6 = ((w5.setCell ⟨w.heap.size, 0, none⟩ (.string s)).setCell ⟨w.heap.size, 1, none⟩ (.int .i64 m1.1.at_)).setCell ⟨w.heap.size, 2, none⟩ (.int .i64 m1.1.er) := ⟨_, rfl⟩
            have HT6 : Hid (Tb w W6 b1 b2 b3 xb s m1.1 c e4) := hid (HTa.out.setR m1.1 hW6)
            rw [← hW6]
            clear hW6 HTa HT5 HN2 m0 m1' m2 f0 f1 f2 t5
            rw [← HM1.out] at HOV
            have HU1 := hid (fun w' => runsign_ w' m1.2 HMV.out.1 (by have := HMV.out.2; omega))
            obtain ⟨uv, huv⟩ : ∃ uv, uv = uns m1.2 := ⟨_, rfl⟩
            rw [← huv] at HU1 HOV
            clear huv
            obtain ⟨e7, he7⟩ : ∃ e7 : En, e7 = (e4.1, ((uv, e4.2.1.2), e4.2.2)) := ⟨_, rfl⟩
            have HX : Hid (en.1 = m1.1 ∧ e7 = en.2) := hid ⟨by rw [HOU.out.1, HOV.out], by rw [HOU.out.2, HOV.out, he7, HE4.out]⟩
            have x0 := HT6.out.q.x2
            have f2 := froz_at HT6.out.q.2 2
            go_upto_region 18 with (go_at_call 100; refine (HU1.out _).mono ?_; rintro e w7 ⟨rfl, e7'⟩; rw [e7']; clear e7' w7)
            obtain ⟨W7, hW7⟩ : ∃ W7, W7 = W6.setCell ⟨xb, 2, none⟩ (.int .i64 uv) := ⟨_, rfl⟩
            have HT7 : Hid (Tb w W7 b1 b2 b3 xb s m1.1 c e7) := hid (by rw [he7]; exact HT6.out.val uv hW7)
            rw [← hW7]
            clear hW7 he7 x0 f2 HU1 HT6
            obtain ⟨l1, l2, l3, l4⟩ := HT7.out.lt
            have HL := hid (And.intro l1 (And.intro l2 (And.intro l3 l4)))
            have HE1 := hid (HT7.out.q.e1 HT7.out.g2 HT7.out.g3 (by omega) (by omega) (by omega))
            have HE2 := hid (TeS.e2 (h := w.heap.size) (xb := xb) (b2 := b2) (b3 := b3) (s := s) (y := m1.1) (e := e7) (by omega) (by omega) (by omega))
            have g4 := HT7.out.g2
            have s0 := HT7.out.q
            have HTW := hid HT7.out.t
            refine wp_region_H (S := fun w' => TeS w' w.heap.size xb s m1.1 e7) (by kernel_rfl) ?_
            have X0 : ∀ w' : World, TeS w' w.heap.size xb s m1.1 e7 → w'.cell? ⟨w.heap.size, 0, none⟩ = some (.string s) := fun w' h => h.r0
            have X1 : ∀ w' : World, TeS w' w.heap.size xb s m1.1 e7 → w'.cell? ⟨w.heap.size, 1, none⟩ = some (.int .i64 m1.1.at_) := fun w' h => h.r1
            have X2 : ∀ w' : World, TeS w' w.heap.size xb s m1.1 e7 → w'.cell? ⟨w.heap.size, 2, none⟩ = some (.int .i64 m1.1.er) := fun w' h => h.r2
            have Y0 : ∀ w' : World, TeS w' w.heap.size xb s m1.1 e7 → w'.cell? ⟨xb, 0, none⟩ = some (.int .u16 e7.1.1) := fun w' h => h.x0
            have Y1 : ∀ w' : World, TeS w' w.heap.size xb s m1.1 e7 → w'.cell? ⟨xb, 1, none⟩ = some (.string e7.1.2) := fun w' h => h.x1
            have Y2 : ∀ w' : World, TeS w' w.heap.size xb s m1.1 e7 → w'.cell? ⟨xb, 2, none⟩ = some (.int .i64 e7.2.1.1) := fun w' h => h.x2
            have Y3 : ∀ w' : World, TeS w' w.heap.size xb s m1.1 e7 → w'.cell? ⟨xb, 3, none⟩ = some (.int .i64 e7.2.1.2.1) := fun w' h => h.x3
            have Y4 : ∀ w' : World, TeS w' w.heap.size xb s m1.1 e7 → w'.cell? ⟨xb, 4, none⟩ = some (.int .i64 e7.2.1.2.2.1) := fun w' h => h.x4
            have Y5 : ∀ w' : World, TeS w' w.heap.size xb s m1.1 e7 → w'.cell? ⟨xb, 5, none⟩ = some (.int .i64 e7.2.1.2.2.2) := fun w' h => h.x5
            have Y6 : ∀ w' : World, TeS w' w.heap.size xb s m1.1 e7 → w'.cell? ⟨xb, 6, none⟩ = some (.int .i64 e7.2.2) := fun w' h => h.x6
            clear l1 l2 l3 l4
            refine wpH_take (i := 0) (v := (.agg #[.string s, .int .i64 m1.1.at_, .int .i64 m1.1.er])) (some 91) rfl rfl (by kernel_rfl) (by kernel_rfl) (by kernel_rfl) (fun _ _ _ h => h) (Or.inl ⟨by rfl, fun w' hS => (by have z0 := X0 _ hS; have z1 := X1 _ hS; have z2 := X2 _ hS; go_simp)⟩) s0 ?_
            try simp only [Go.Act.put, List.setIfInBounds_toArray, List.set_cons_zero, List.set_cons_succ]
            refine wpH_take (i := 1) (v := (.agg #[.int .u16 e7.1.1, .string e7.1.2, .int .i64 e7.2.1.1, .int .i64 e7.2.1.2.1, .int .i64 e7.2.1.2.2.1, .int .i64 e7.2.1.2.2.2, .int .i64 e7.2.2])) (some 92) rfl rfl (by kernel_rfl) (by kernel_rfl) (by kernel_rfl) (fun _ _ _ h => h) (Or.inl ⟨by rfl, fun w' hS => (by have z0 := Y0 _ hS; have z1 := Y1 _ hS; have z2 := Y2 _ hS; have z3 := Y3 _ hS; have z4 := Y4 _ hS; have z5 := Y5 _ hS; have z6 := Y6 _ hS; go_simp)⟩) s0 ?_
            try simp only [Go.Act.put, List.setIfInBounds_toArray, List.set_cons_zero, List.set_cons_succ]
            refine wpH_call (i := 2) (o := { dst := none, op := Op.store 113 (Operand.tmp 8) (Operand.tmp 91), type := 0, pos := _, after := #[{ on := 0, ground := Ground.data }, { on := 0, ground := Ground.phase }, { on := 1, ground := Ground.textOnly Departure.lateStores }], guard := none }) (by kernel_rfl) rfl (fun K' hK => ?_)
            rw [if_pos (by rfl)]
            have m0 := cell_of (n := 0) g4 rfl
            have m1 := cell_of (n := 1) g4 rfl
            have m2 := cell_of (n := 2) g4 rfl
            have f0 := froz_at g4 0
            have f1 := froz_at g4 1
            have f2 := froz_at g4 2
            go_simp
            clear m0 m1 m2 f0 f1 f2
            obtain ⟨E1, hE1⟩ : ∃ E1, E1 = (((W7).setCell ⟨b2, 0, none⟩ (.string s)).setCell ⟨b2, 1, none⟩ (.int .i64 m1.1.at_)).setCell ⟨b2, 2, none⟩ (.int .i64 m1.1.er) := ⟨_, rfl⟩
            rw [← hE1]
            obtain ⟨s1, g5, h4, te1⟩ := HE1.out E1 hE1
            clear hE1
            refine hK.out _ _ s1 ?_
            clear hK
            try simp only [Go.Act.put, List.setIfInBounds_toArray, List.set_cons_zero, List.set_cons_succ]
            refine wpH_call (i := 3) (o := { dst := none, op := Op.store 88 (Operand.tmp 9) (Operand.tmp 92), type := 0, pos := _, after := #[{ on := 1, ground := Ground.data }, { on := 2, ground := Ground.chain }, { on := 0, ground := Ground.phase }, { on := 1, ground := Ground.phase }, { on := 2, ground := Ground.phase }], guard := none }) (by kernel_rfl) rfl (fun K' hK => ?_)
            rw [if_pos (by rfl)]
            have m0 := cell_of (n := 0) g5 rfl
            have m1 := cell_of (n := 1) g5 rfl
            have m2 := cell_of (n := 2) g5 rfl
            have m3 := cell_of (n := 3) g5 rfl
            have m4 := cell_of (n := 4) g5 rfl
            have m5 := cell_of (n := 5) g5 rfl
            have m6 := cell_of (n := 6) g5 rfl
            have f0 := froz_at g5 0
            have f1 := froz_at g5 1
            have f2 := froz_at g5 2
            have f3 := froz_at g5 3
            have f4 := froz_at g5 4
            have f5 := froz_at g5 5
            have f6 := froz_at g5 6
            go_simp
            clear m0 m1 m2 m3 m4 m5 m6 f0 f1 f2 f3 f4 f5 f6
            obtain ⟨E2, hE2⟩ : ∃ E2, E2 = (((((((E1).setCell ⟨b3, 0, none⟩ (.int .u16 e7.1.1)).setCell ⟨b3, 1, none⟩ (.string e7.1.2)).setCell ⟨b3, 2, none⟩ (.int .i64 e7.2.1.1)).setCell ⟨b3, 3, none⟩ (.int .i64 e7.2.1.2.1)).setCell ⟨b3, 4, none⟩ (.int .i64 e7.2.1.2.2.1)).setCell ⟨b3, 5, none⟩ (.int .i64 e7.2.1.2.2.2)).setCell ⟨b3, 6, none⟩ (.int .i64 e7.2.2) := ⟨_, rfl⟩
            rw [← hE2]
            obtain ⟨s2, h5, h4b, te2⟩ := HE2.out E1 E2 s1 g5 h4 hE2
            clear hE2
            refine hK.out _ _ s2 ?_
            clear hK
            try simp only [Go.Act.put, List.setIfInBounds_toArray, List.set_cons_zero, List.set_cons_succ]
            refine wpAnyH_done (by kernel_rfl) ?_ _
            go_wp2_with fail
            have u0 : E2.cell? ⟨b2, 0, none⟩ = some (.string s) := cell_of h4b rfl
            have u1 : E2.cell? ⟨b2, 1, none⟩ = some (.int .i64 m1.1.at_) := cell_of h4b rfl
            have u2 : E2.cell? ⟨b2, 2, none⟩ = some (.int .i64 m1.1.er) := cell_of h4b rfl
            have v0 : E2.cell? ⟨b3, 0, none⟩ = some (.int .u16 e7.1.1) := cell_of h5 rfl
            have v1 : E2.cell? ⟨b3, 1, none⟩ = some (.string e7.1.2) := cell_of h5 rfl
            have v2 : E2.cell? ⟨b3, 2, none⟩ = some (.int .i64 e7.2.1.1) := cell_of h5 rfl
            have v3 : E2.cell? ⟨b3, 3, none⟩ = some (.int .i64 e7.2.1.2.1) := cell_of h5 rfl
            have v4 : E2.cell? ⟨b3, 4, none⟩ = some (.int .i64 e7.2.1.2.2.1) := cell_of h5 rfl
            have v5 : E2.cell? ⟨b3, 5, none⟩ = some (.int .i64 e7.2.1.2.2.2) := cell_of h5 rfl
            have v6 : E2.cell? ⟨b3, 6, none⟩ = some (.int .i64 e7.2.2) := cell_of h5 rfl
            exact bodyPost_ret (v := .tuple #[.agg #[.string s, .int .i64 m1.1.at_, .int .i64 m1.1.er], .agg #[.int .u16 e7.1.1, .string e7.1.2, .int .i64 e7.2.1.1, .int .i64 e7.2.1.2.1, .int .i64 e7.2.1.2.2.1, .int .i64 e7.2.1.2.2.2, .int .i64 e7.2.2]]) (by simp [results, Tryz.results51, go_sem, u0, u1, u2, v0, v1, v2, v3, v4, v5, v6]) rfl (DeE.of e7 (by rw [HX.out.1]; rfl) (fun _ => HX.out.2) ((HTW.out.trans te1 (fun k hk => by simp at hk; have := HL.out; omega)).trans te2 (fun k hk => by simp at hk; have := HL.out; omega)).drew)
        · have h0' : ¬ (b.toNat : Int) = 0 := by omega
          by_cases hcn : c.n = 0
          · rw [hcn] at q1
            obtain ⟨y5, hy5⟩ : ∃ y5 : Rd, y5 = ⟨n1.1.at_, 200⟩ := ⟨_, rfl⟩
            have HX : Hid (en.1 = y5) := hid (by
              rw [HOU.out.1, outR_kind he c HB.out (by unfold keepB; rw [if_neg h0, if_pos (by omega), hcn]; rfl), hy5])
            have HY5 := hid hy5
            clear hy5
            go_upto_region 13 with fail
            obtain ⟨W5, hW5⟩ : ∃ W5, W5 = W4.setCell ⟨w.heap.size, 2, none⟩ (.int .i64 200) := ⟨_, rfl⟩
            have HT5 : Hid (Tb w W5 b1 b2 b3 xb s y5 c e4) := hid (by rw [HY5.out]; exact HT4.out.err 200 hW5)
            rw [← hW5]
            clear hW5 x0 x1 x2 f2 hb hb' q0 q1 z1 z1' z0 wb hbb
            obtain ⟨l1, l2, l3, l4⟩ := HT5.out.lt
            have HL := hid (And.intro l1 (And.intro l2 (And.intro l3 l4)))
            have HE1 := hid (HT5.out.q.e1 HT5.out.g2 HT5.out.g3 (by omega) (by omega) (by omega))
            have HE2 := hid (TeS.e2 (h := w.heap.size) (xb := xb) (b2 := b2) (b3 := b3) (s := s) (y := y5) (e := e4) (by omega) (by omega) (by omega))
            have g4 := HT5.out.g2
            have s0 := HT5.out.q
            have HTW := hid HT5.out.t
            refine wp_region_H (S := fun w' => TeS w' w.heap.size xb s y5 e4) (by kernel_rfl) ?_
            have X0 : ∀ w' : World, TeS w' w.heap.size xb s y5 e4 → w'.cell? ⟨w.heap.size, 0, none⟩ = some (.string s) := fun w' h => h.r0
            have X1 : ∀ w' : World, TeS w' w.heap.size xb s y5 e4 → w'.cell? ⟨w.heap.size, 1, none⟩ = some (.int .i64 y5.at_) := fun w' h => h.r1
            have X2 : ∀ w' : World, TeS w' w.heap.size xb s y5 e4 → w'.cell? ⟨w.heap.size, 2, none⟩ = some (.int .i64 y5.er) := fun w' h => h.r2
            have Y0 : ∀ w' : World, TeS w' w.heap.size xb s y5 e4 → w'.cell? ⟨xb, 0, none⟩ = some (.int .u16 e4.1.1) := fun w' h => h.x0
            have Y1 : ∀ w' : World, TeS w' w.heap.size xb s y5 e4 → w'.cell? ⟨xb, 1, none⟩ = some (.string e4.1.2) := fun w' h => h.x1
            have Y2 : ∀ w' : World, TeS w' w.heap.size xb s y5 e4 → w'.cell? ⟨xb, 2, none⟩ = some (.int .i64 e4.2.1.1) := fun w' h => h.x2
            have Y3 : ∀ w' : World, TeS w' w.heap.size xb s y5 e4 → w'.cell? ⟨xb, 3, none⟩ = some (.int .i64 e4.2.1.2.1) := fun w' h => h.x3
            have Y4 : ∀ w' : World, TeS w' w.heap.size xb s y5 e4 → w'.cell? ⟨xb, 4, none⟩ = some (.int .i64 e4.2.1.2.2.1) := fun w' h => h.x4
            have Y5 : ∀ w' : World, TeS w' w.heap.size xb s y5 e4 → w'.cell? ⟨xb, 5, none⟩ = some (.int .i64 e4.2.1.2.2.2) := fun w' h => h.x5
            have Y6 : ∀ w' : World, TeS w' w.heap.size xb s y5 e4 → w'.cell? ⟨xb, 6, none⟩ = some (.int .i64 e4.2.2) := fun w' h => h.x6
            clear l1 l2 l3 l4
            refine wpH_take (i := 0) (v := (.agg #[.string s, .int .i64 y5.at_, .int .i64 y5.er])) (some 74) rfl rfl (by kernel_rfl) (by kernel_rfl) (by kernel_rfl) (fun _ _ _ h => h) (Or.inl ⟨by rfl, fun w' hS => (by have z0 := X0 _ hS; have z1 := X1 _ hS; have z2 := X2 _ hS; go_simp)⟩) s0 ?_
            try simp only [Go.Act.put, List.setIfInBounds_toArray, List.set_cons_zero, List.set_cons_succ]
            refine wpH_take (i := 1) (v := (.agg #[.int .u16 e4.1.1, .string e4.1.2, .int .i64 e4.2.1.1, .int .i64 e4.2.1.2.1, .int .i64 e4.2.1.2.2.1, .int .i64 e4.2.1.2.2.2, .int .i64 e4.2.2])) (some 75) rfl rfl (by kernel_rfl) (by kernel_rfl) (by kernel_rfl) (fun _ _ _ h => h) (Or.inl ⟨by rfl, fun w' hS => (by have z0 := Y0 _ hS; have z1 := Y1 _ hS; have z2 := Y2 _ hS; have z3 := Y3 _ hS; have z4 := Y4 _ hS; have z5 := Y5 _ hS; have z6 := Y6 _ hS; go_simp)⟩) s0 ?_
            try simp only [Go.Act.put, List.setIfInBounds_toArray, List.set_cons_zero, List.set_cons_succ]
            refine wpH_call (i := 2) (o := { dst := none, op := Op.store 113 (Operand.tmp 8) (Operand.tmp 74), type := 0, pos := _, after := #[{ on := 0, ground := Ground.data }, { on := 0, ground := Ground.phase }, { on := 1, ground := Ground.textOnly Departure.lateStores }], guard := none }) (by kernel_rfl) rfl (fun K' hK => ?_)
            rw [if_pos (by rfl)]
            have m0 := cell_of (n := 0) g4 rfl
            have m1 := cell_of (n := 1) g4 rfl
            have m2 := cell_of (n := 2) g4 rfl
            have f0 := froz_at g4 0
            have f1 := froz_at g4 1
            have f2 := froz_at g4 2
            go_simp
            clear m0 m1 m2 f0 f1 f2
            obtain ⟨E1, hE1⟩ : ∃ E1, E1 = (((W5).setCell ⟨b2, 0, none⟩ (.string s)).setCell ⟨b2, 1, none⟩ (.int .i64 y5.at_)).setCell ⟨b2, 2, none⟩ (.int .i64 y5.er) := ⟨_, rfl⟩
            rw [← hE1]
            obtain ⟨s1, g5, h4, te1⟩ := HE1.out E1 hE1
            clear hE1
            refine hK.out _ _ s1 ?_
            clear hK
            try simp only [Go.Act.put, List.setIfInBounds_toArray, List.set_cons_zero, List.set_cons_succ]
            refine wpH_call (i := 3) (o := { dst := none, op := Op.store 88 (Operand.tmp 9) (Operand.tmp 75), type := 0, pos := _, after := #[{ on := 1, ground := Ground.data }, { on := 2, ground := Ground.chain }, { on := 0, ground := Ground.phase }, { on := 1, ground := Ground.phase }, { on := 2, ground := Ground.phase }], guard := none }) (by kernel_rfl) rfl (fun K' hK => ?_)
            rw [if_pos (by rfl)]
            have m0 := cell_of (n := 0) g5 rfl
            have m1 := cell_of (n := 1) g5 rfl
            have m2 := cell_of (n := 2) g5 rfl
            have m3 := cell_of (n := 3) g5 rfl
            have m4 := cell_of (n := 4) g5 rfl
            have m5 := cell_of (n := 5) g5 rfl
            have m6 := cell_of (n := 6) g5 rfl
            have f0 := froz_at g5 0
            have f1 := froz_at g5 1
            have f2 := froz_at g5 2
            have f3 := froz_at g5 3
            have f4 := froz_at g5 4
            have f5 := froz_at g5 5
            have f6 := froz_at g5 6
            go_simp
            clear m0 m1 m2 m3 m4 m5 m6 f0 f1 f2 f3 f4 f5 f6
            obtain ⟨E2, hE2⟩ : ∃ E2, E2 = (((((((E1).setCell ⟨b3, 0, none⟩ (.int .u16 e4.1.1)).setCell ⟨b3, 1, none⟩ (.string e4.1.2)).setCell ⟨b3, 2, none⟩ (.int .i64 e4.2.1.1)).setCell ⟨b3, 3, none⟩ (.int .i64 e4.2.1.2.1)).setCell ⟨b3, 4, none⟩ (.int .i64 e4.2.1.2.2.1)).setCell ⟨b3, 5, none⟩ (.int .i64 e4.2.1.2.2.2)).setCell ⟨b3, 6, none⟩ (.int .i64 e4.2.2) := ⟨_, rfl⟩
            rw [← hE2]
            obtain ⟨s2, h5, h4b, te2⟩ := HE2.out E1 E2 s1 g5 h4 hE2
            clear hE2
            refine hK.out _ _ s2 ?_
            clear hK
            try simp only [Go.Act.put, List.setIfInBounds_toArray, List.set_cons_zero, List.set_cons_succ]
            refine wpAnyH_done (by kernel_rfl) ?_ _
            go_wp2_with fail
            have u0 : E2.cell? ⟨b2, 0, none⟩ = some (.string s) := cell_of h4b rfl
            have u1 : E2.cell? ⟨b2, 1, none⟩ = some (.int .i64 y5.at_) := cell_of h4b rfl
            have u2 : E2.cell? ⟨b2, 2, none⟩ = some (.int .i64 y5.er) := cell_of h4b rfl
            have v0 : E2.cell? ⟨b3, 0, none⟩ = some (.int .u16 e4.1.1) := cell_of h5 rfl
            have v1 : E2.cell? ⟨b3, 1, none⟩ = some (.string e4.1.2) := cell_of h5 rfl
            have v2 : E2.cell? ⟨b3, 2, none⟩ = some (.int .i64 e4.2.1.1) := cell_of h5 rfl
            have v3 : E2.cell? ⟨b3, 3, none⟩ = some (.int .i64 e4.2.1.2.1) := cell_of h5 rfl
            have v4 : E2.cell? ⟨b3, 4, none⟩ = some (.int .i64 e4.2.1.2.2.1) := cell_of h5 rfl
            have v5 : E2.cell? ⟨b3, 5, none⟩ = some (.int .i64 e4.2.1.2.2.2) := cell_of h5 rfl
            have v6 : E2.cell? ⟨b3, 6, none⟩ = some (.int .i64 e4.2.2) := cell_of h5 rfl
            exact bodyPost_ret (v := .tuple #[.agg #[.string s, .int .i64 y5.at_, .int .i64 y5.er], .agg #[.int .u16 e4.1.1, .string e4.1.2, .int .i64 e4.2.1.1, .int .i64 e4.2.1.2.1, .int .i64 e4.2.1.2.2.1, .int .i64 e4.2.1.2.2.2, .int .i64 e4.2.2]]) (by simp [results, Tryz.results51, go_sem, u0, u1, u2, v0, v1, v2, v3, v4, v5, v6]) rfl (DeE.of e4 (by rw [HX.out]; rfl) (fun hz => by rw [HX.out, HY5.out] at hz; simp at hz) ((HTW.out.trans te1 (fun k hk => by simp at hk; have := HL.out; omega)).trans te2 (fun k hk => by simp at hk; have := HL.out; omega)).drew)
          · obtain ⟨y5, hy5⟩ : ∃ y5 : Rd, y5 = ⟨n1.1.at_ + 1, 0⟩ := ⟨_, rfl⟩
            have hcn' : (c.n == 0) = false := by simpa using hcn
            have HKP : Hid (keepB c b.toNat = true) := hid (by unfold keepB; rw [if_neg h0, if_pos (by omega)]; simp; have := hc.2; omega)
            have HOV := hid (outR_fail he c HB.out HKP.out h0)
            rw [← hy5] at HOV
            have HY5 := hid hy5
            clear hy5
            have hy1 : (k : Int) + 1 ≤ 140737488351232 := by have := HSS.out; omega
            have HI5 : Hid (Rin s y5) := hid (by rw [HY5.out]; exact ⟨by have := HKE.out; show (0 : Int) ≤ n1.1.at_ + 1; omega, by have := HKE.out; show n1.1.at_ + 1 ≤ (s.size : Int); omega⟩)
            have wk : IntKind.i64.wrap ((k : Int) + 1) = (k : Int) + 1 := by rw [IntKind.wrap_i64]; omega
            have f1 := froz_at HT4.out.q.1 1
            have HEQ := hid he
            go_upto_region 15 with fail
            obtain ⟨W5, hW5⟩ : ∃ W5, W5 = W4.setCell ⟨w.heap.size, 1, none⟩ (.int .i64 ((k : Int) + 1)) := ⟨_, rfl⟩
            have HT5 : Hid (Tb w W5 b1 b2 b3 xb s y5 c e4) := hid (by rw [HY5.out, HKE.out, ← HEQ.out]; exact HT4.out.on ((k : Int) + 1) hW5)
            rw [← hW5]
            clear hW5 x0 x1 x2 f1 f2 hb hb' q0 q1 z1 z1' z0 wb hbb wk hy1
            have HN2 := hid (fun w' => dnum_ w' s y5 HI5.out HSS.out 0 18446744073709551615 (by omega) (by omega))
            obtain ⟨m1, hm1⟩ : ∃ m1, m1 = numR s y5 0 18446744073709551615 := ⟨_, rfl⟩
            rw [← hm1] at HN2
            have HM1 := hid hm1
            have HMV : Hid (0 ≤ m1.2 ∧ m1.2 ≤ 18446744073709551615) := hid (by rw [hm1]; exact numR_v (by omega) (by omega))
            have HI6 := hid (HI5.out.num 0 18446744073709551615)
            rw [← hm1] at HI6
            clear hm1
            unfold rv at HN2
            have x0 := HT5.out.q.r0
            have x1 := HT5.out.q.r1
            have x2 := HT5.out.q.r2
            go_upto_region 16 with (go_at_call 50; refine (HN2.out _).mono ?_; rintro e w5 ⟨rfl, t5⟩; have HTa := hid (HT5.out.call t5); have m0 := cell_of (n := 0) HTa.out.q.1 rfl; have m1' := cell_of (n := 1) HTa.out.q.1 rfl; have m2 := cell_of (n := 2) HTa.out.q.1 rfl; have f0 := froz_at HTa.out.q.1 0; have f1 := froz_at HTa.out.q.1 1; have f2 := froz_at HTa.out.q.1 2; clear x0 x1 x2)
            obtain ⟨W6, hW6⟩ : ∃ W6, W6 = ((w5.setCell ⟨w.heap.size, 0, none⟩ (.string s)).setCell ⟨w.heap.size, 1, none⟩ (.int .i64 m1.1.at_)).setCell ⟨w.heap.size, 2, none⟩ (.int .i64 m1.1.er) := ⟨_, rfl⟩
            have HT6 : Hid (Tb w W6 b1 b2 b3 xb s m1.1 c e4) := hid (HTa.out.setR m1.1 hW6)
            rw [← hW6]
            clear hW6 HTa HT5 HN2 m0 m1' m2 f0 f1 f2 t5
            rw [← HM1.out] at HOV
            have HU1 := hid (fun w' => runsign_ w' m1.2 HMV.out.1 (by have := HMV.out.2; omega))
            have HN3 := hid (fun w' => dnum_ w' s m1.1 HI6.out HSS.out 1 9223372036854775807 (by omega) (by omega))
            obtain ⟨m3, hm3⟩ : ∃ m3, m3 = numR s m1.1 1 9223372036854775807 := ⟨_, rfl⟩
            have HMW : Hid (0 ≤ m3.2 ∧ m3.2 ≤ 9223372036854775807) := hid (by rw [hm3]; exact numR_v (by omega) (by omega))
            rw [← hm3] at HN3 HOV
            clear hm3
            unfold rv at HN3
            obtain ⟨uv, huv⟩ : ∃ uv, uv = uns m1.2 := ⟨_, rfl⟩
            rw [← huv] at HU1 HOV
            clear huv
            have x0 := HT6.out.q.r0
            have x1 := HT6.out.q.r1
            have x2 := HT6.out.q.r2
            go_upto_region 20 with (go_at_call 50; refine (HN3.out _).mono ?_; rintro e w7 ⟨rfl, t7⟩; have HTa := hid (HT6.out.call t7); have m0 := cell_of (n := 0) HTa.out.q.1 rfl; have m1' := cell_of (n := 1) HTa.out.q.1 rfl; have m2 := cell_of (n := 2) HTa.out.q.1 rfl; have f0 := froz_at HTa.out.q.1 0; have f1 := froz_at HTa.out.q.1 1; have f2 := froz_at HTa.out.q.1 2; clear x0 x1 x2)
            obtain ⟨W8, hW8⟩ : ∃ W8, W8 = ((w7.setCell ⟨w.heap.size, 0, none⟩ (.string s)).setCell ⟨w.heap.size, 1, none⟩ (.int .i64 m3.1.at_)).setCell ⟨w.heap.size, 2, none⟩ (.int .i64 m3.1.er) := ⟨_, rfl⟩
            have HT8 : Hid (Tb w W8 b1 b2 b3 xb s m3.1 c e4) := hid (HTa.out.setR m3.1 hW8)
            rw [← hW8]
            clear hW8 HTa HT6 HN3 m0 m1' m2 f0 f1 f2 t7
            obtain ⟨e7, he7⟩ : ∃ e7 : En, e7 = (e4.1, ((e4.2.1.1, (b.toNat : Int), uv, m3.2), e4.2.2)) := ⟨_, rfl⟩
            have HX : Hid (en.1 = m3.1 ∧ e7 = en.2) := hid ⟨by rw [HOU.out.1, HOV.out], by rw [HOU.out.2, HOV.out, he7, HE4.out]⟩
            have x3 := HT8.out.q.x3
            have x4 := HT8.out.q.x4
            have x5 := HT8.out.q.x5
            have f3 := froz_at HT8.out.q.2 3
            have f4 := froz_at HT8.out.q.2 4
            have f5 := froz_at HT8.out.q.2 5
            have wm : IntKind.i64.wrap m3.2 = m3.2 := by have := HMW.out; rw [IntKind.wrap_i64]; omega
            go_upto_region 21 with (go_at_call 100; refine (HU1.out _).mono ?_; rintro e w9 ⟨rfl, e9⟩; rw [e9]; clear e9 w9)
            obtain ⟨W9, hW9⟩ : ∃ W9, W9 = ((W8.setCell ⟨xb, 3, none⟩ (.int .i64 (b.toNat : Int))).setCell ⟨xb, 4, none⟩ (.int .i64 uv)).setCell ⟨xb, 5, none⟩ (.int .i64 m3.2) := ⟨_, rfl⟩
            have HT9 : Hid (Tb w W9 b1 b2 b3 xb s m3.1 c e7) := hid (by rw [he7]; exact HT8.out.fault (b.toNat : Int) uv m3.2 hW9)
            rw [← hW9]
            clear hW9 he7 x3 x4 x5 f3 f4 f5 HU1 HT8 wm
            obtain ⟨l1, l2, l3, l4⟩ := HT9.out.lt
            have HL := hid (And.intro l1 (And.intro l2 (And.intro l3 l4)))
            have HE1 := hid (HT9.out.q.e1 HT9.out.g2 HT9.out.g3 (by omega) (by omega) (by omega))
            have HE2 := hid (TeS.e2 (h := w.heap.size) (xb := xb) (b2 := b2) (b3 := b3) (s := s) (y := m3.1) (e := e7) (by omega) (by omega) (by omega))
            have g4 := HT9.out.g2
            have s0 := HT9.out.q
            have HTW := hid HT9.out.t
            refine wp_region_H (S := fun w' => TeS w' w.heap.size xb s m3.1 e7) (by kernel_rfl) ?_
            have X0 : ∀ w' : World, TeS w' w.heap.size xb s m3.1 e7 → w'.cell? ⟨w.heap.size, 0, none⟩ = some (.string s) := fun w' h => h.r0
            have X1 : ∀ w' : World, TeS w' w.heap.size xb s m3.1 e7 → w'.cell? ⟨w.heap.size, 1, none⟩ = some (.int .i64 m3.1.at_) := fun w' h => h.r1
            have X2 : ∀ w' : World, TeS w' w.heap.size xb s m3.1 e7 → w'.cell? ⟨w.heap.size, 2, none⟩ = some (.int .i64 m3.1.er) := fun w' h => h.r2
            have Y0 : ∀ w' : World, TeS w' w.heap.size xb s m3.1 e7 → w'.cell? ⟨xb, 0, none⟩ = some (.int .u16 e7.1.1) := fun w' h => h.x0
            have Y1 : ∀ w' : World, TeS w' w.heap.size xb s m3.1 e7 → w'.cell? ⟨xb, 1, none⟩ = some (.string e7.1.2) := fun w' h => h.x1
            have Y2 : ∀ w' : World, TeS w' w.heap.size xb s m3.1 e7 → w'.cell? ⟨xb, 2, none⟩ = some (.int .i64 e7.2.1.1) := fun w' h => h.x2
            have Y3 : ∀ w' : World, TeS w' w.heap.size xb s m3.1 e7 → w'.cell? ⟨xb, 3, none⟩ = some (.int .i64 e7.2.1.2.1) := fun w' h => h.x3
            have Y4 : ∀ w' : World, TeS w' w.heap.size xb s m3.1 e7 → w'.cell? ⟨xb, 4, none⟩ = some (.int .i64 e7.2.1.2.2.1) := fun w' h => h.x4
            have Y5 : ∀ w' : World, TeS w' w.heap.size xb s m3.1 e7 → w'.cell? ⟨xb, 5, none⟩ = some (.int .i64 e7.2.1.2.2.2) := fun w' h => h.x5
            have Y6 : ∀ w' : World, TeS w' w.heap.size xb s m3.1 e7 → w'.cell? ⟨xb, 6, none⟩ = some (.int .i64 e7.2.2) := fun w' h => h.x6
            clear l1 l2 l3 l4
            refine wpH_take (i := 0) (v := (.agg #[.string s, .int .i64 m3.1.at_, .int .i64 m3.1.er])) (some 106) rfl rfl (by kernel_rfl) (by kernel_rfl) (by kernel_rfl) (fun _ _ _ h => h) (Or.inl ⟨by rfl, fun w' hS => (by have z0 := X0 _ hS; have z1 := X1 _ hS; have z2 := X2 _ hS; go_simp)⟩) s0 ?_
            try simp only [Go.Act.put, List.setIfInBounds_toArray, List.set_cons_zero, List.set_cons_succ]
            refine wpH_take (i := 1) (v := (.agg #[.int .u16 e7.1.1, .string e7.1.2, .int .i64 e7.2.1.1, .int .i64 e7.2.1.2.1, .int .i64 e7.2.1.2.2.1, .int .i64 e7.2.1.2.2.2, .int .i64 e7.2.2])) (some 107) rfl rfl (by kernel_rfl) (by kernel_rfl) (by kernel_rfl) (fun _ _ _ h => h) (Or.inl ⟨by rfl, fun w' hS => (by have z0 := Y0 _ hS; have z1 := Y1 _ hS; have z2 := Y2 _ hS; have z3 := Y3 _ hS; have z4 := Y4 _ hS; have z5 := Y5 _ hS; have z6 := Y6 _ hS; go_simp)⟩) s0 ?_
            try simp only [Go.Act.put, List.setIfInBounds_toArray, List.set_cons_zero, List.set_cons_succ]
            refine wpH_call (i := 2) (o := { dst := none, op := Op.store 113 (Operand.tmp 8) (Operand.tmp 106), type := 0, pos := _, after := #[{ on := 0, ground := Ground.data }, { on := 0, ground := Ground.phase }, { on := 1, ground := Ground.textOnly Departure.lateStores }], guard := none }) (by kernel_rfl) rfl (fun K' hK => ?_)
            rw [if_pos (by rfl)]
            have m0 := cell_of (n := 0) g4 rfl
            have m1 := cell_of (n := 1) g4 rfl
            have m2 := cell_of (n := 2) g4 rfl
            have f0 := froz_at g4 0
            have f1 := froz_at g4 1
            have f2 := froz_at g4 2
            go_simp
            clear m0 m1 m2 f0 f1 f2
            obtain ⟨E1, hE1⟩ : ∃ E1, E1 = (((W9).setCell ⟨b2, 0, none⟩ (.string s)).setCell ⟨b2, 1, none⟩ (.int .i64 m3.1.at_)).setCell ⟨b2, 2, none⟩ (.int .i64 m3.1.er) := ⟨_, rfl⟩
            rw [← hE1]
            obtain ⟨s1, g5, h4, te1⟩ := HE1.out E1 hE1
            clear hE1
            refine hK.out _ _ s1 ?_
            clear hK
            try simp only [Go.Act.put, List.setIfInBounds_toArray, List.set_cons_zero, List.set_cons_succ]
            refine wpH_call (i := 3) (o := { dst := none, op := Op.store 88 (Operand.tmp 9) (Operand.tmp 107), type := 0, pos := _, after := #[{ on := 1, ground := Ground.data }, { on := 2, ground := Ground.chain }, { on := 0, ground := Ground.phase }, { on := 1, ground := Ground.phase }, { on := 2, ground := Ground.phase }], guard := none }) (by kernel_rfl) rfl (fun K' hK => ?_)
            rw [if_pos (by rfl)]
            have m0 := cell_of (n := 0) g5 rfl
            have m1 := cell_of (n := 1) g5 rfl
            have m2 := cell_of (n := 2) g5 rfl
            have m3 := cell_of (n := 3) g5 rfl
            have m4 := cell_of (n := 4) g5 rfl
            have m5 := cell_of (n := 5) g5 rfl
            have m6 := cell_of (n := 6) g5 rfl
            have f0 := froz_at g5 0
            have f1 := froz_at g5 1
            have f2 := froz_at g5 2
            have f3 := froz_at g5 3
            have f4 := froz_at g5 4
            have f5 := froz_at g5 5
            have f6 := froz_at g5 6
            go_simp
            clear m0 m1 m2 m3 m4 m5 m6 f0 f1 f2 f3 f4 f5 f6
            obtain ⟨E2, hE2⟩ : ∃ E2, E2 = (((((((E1).setCell ⟨b3, 0, none⟩ (.int .u16 e7.1.1)).setCell ⟨b3, 1, none⟩ (.string e7.1.2)).setCell ⟨b3, 2, none⟩ (.int .i64 e7.2.1.1)).setCell ⟨b3, 3, none⟩ (.int .i64 e7.2.1.2.1)).setCell ⟨b3, 4, none⟩ (.int .i64 e7.2.1.2.2.1)).setCell ⟨b3, 5, none⟩ (.int .i64 e7.2.1.2.2.2)).setCell ⟨b3, 6, none⟩ (.int .i64 e7.2.2) := ⟨_, rfl⟩
            rw [← hE2]
            obtain ⟨s2, h5, h4b, te2⟩ := HE2.out E1 E2 s1 g5 h4 hE2
            clear hE2
            refine hK.out _ _ s2 ?_
            clear hK
            try simp only [Go.Act.put, List.setIfInBounds_toArray, List.set_cons_zero, List.set_cons_succ]
            refine wpAnyH_done (by kernel_rfl) ?_ _
            go_wp2_with fail
            have u0 : E2.cell? ⟨b2, 0, none⟩ = some (.string s) := cell_of h4b rfl
            have u1 : E2.cell? ⟨b2, 1, none⟩ = some (.int .i64 m3.1.at_) := cell_of h4b rfl
            have u2 : E2.cell? ⟨b2, 2, none⟩ = some (.int .i64 m3.1.er) := cell_of h4b rfl
            have v0 : E2.cell? ⟨b3, 0, none⟩ = some (.int .u16 e7.1.1) := cell_of h5 rfl
            have v1 : E2.cell? ⟨b3, 1, none⟩ = some (.string e7.1.2) := cell_of h5 rfl
            have v2 : E2.cell? ⟨b3, 2, none⟩ = some (.int .i64 e7.2.1.1) := cell_of h5 rfl
            have v3 : E2.cell? ⟨b3, 3, none⟩ = some (.int .i64 e7.2.1.2.1) := cell_of h5 rfl
            have v4 : E2.cell? ⟨b3, 4, none⟩ = some (.int .i64 e7.2.1.2.2.1) := cell_of h5 rfl
            have v5 : E2.cell? ⟨b3, 5, none⟩ = some (.int .i64 e7.2.1.2.2.2) := cell_of h5 rfl
            have v6 : E2.cell? ⟨b3, 6, none⟩ = some (.int .i64 e7.2.2) := cell_of h5 rfl
            exact bodyPost_ret (v := .tuple #[.agg #[.string s, .int .i64 m3.1.at_, .int .i64 m3.1.er], .agg #[.int .u16 e7.1.1, .string e7.1.2, .int .i64 e7.2.1.1, .int .i64 e7.2.1.2.1, .int .i64 e7.2.1.2.2.1, .int .i64 e7.2.1.2.2.2, .int .i64 e7.2.2]]) (by simp [results, Tryz.results51, go_sem, u0, u1, u2, v0, v1, v2, v3, v4, v5, v6]) rfl (DeE.of e7 (by rw [HX.out.1]; rfl) (fun _ => HX.out.2) ((HTW.out.trans te1 (fun k hk => by simp at hk; have := HL.out; omega)).trans te2 (fun k hk => by simp at hk; have := HL.out; omega)).drew)
  · have hb : (n1.1.er != 0) = true := by simpa using he
    have hb' : (n1.1.er == 0) = false := by simpa using he
    have HX : Hid (en.1 = n1.1) := hid (by
      rw [HEN.out]
      show (outR s (numR s (keyR s x A).1 0 now).1 c).1 = n1.1
      rw [← HK1.out, ← HNE.out]
      exact outR_bad he c)
    go_upto_region 6 with fail
    clear x0 x1 x2 hb hb'
    obtain ⟨l1, l2, l3, l4⟩ := HT4.out.lt
    have HL := hid (And.intro l1 (And.intro l2 (And.intro l3 l4)))
    have HE1 := hid (HT4.out.q.e1 HT4.out.g2 HT4.out.g3 (by omega) (by omega) (by omega))
    have HE2 := hid (TeS.e2 (h := w.heap.size) (xb := xb) (b2 := b2) (b3 := b3) (s := s) (y := n1.1) (e := e4) (by omega) (by omega) (by omega))
    have g4 := HT4.out.g2
    have s0 := HT4.out.q
    have HTW := hid HT4.out.t
    refine wp_region_H (S := fun w' => TeS w' w.heap.size xb s n1.1 e4) (by kernel_rfl) ?_
    have X0 : ∀ w' : World, TeS w' w.heap.size xb s n1.1 e4 → w'.cell? ⟨w.heap.size, 0, none⟩ = some (.string s) := fun w' h => h.r0
    have X1 : ∀ w' : World, TeS w' w.heap.size xb s n1.1 e4 → w'.cell? ⟨w.heap.size, 1, none⟩ = some (.int .i64 n1.1.at_) := fun w' h => h.r1
    have X2 : ∀ w' : World, TeS w' w.heap.size xb s n1.1 e4 → w'.cell? ⟨w.heap.size, 2, none⟩ = some (.int .i64 n1.1.er) := fun w' h => h.r2
    have Y0 : ∀ w' : World, TeS w' w.heap.size xb s n1.1 e4 → w'.cell? ⟨xb, 0, none⟩ = some (.int .u16 e4.1.1) := fun w' h => h.x0
    have Y1 : ∀ w' : World, TeS w' w.heap.size xb s n1.1 e4 → w'.cell? ⟨xb, 1, none⟩ = some (.string e4.1.2) := fun w' h => h.x1
    have Y2 : ∀ w' : World, TeS w' w.heap.size xb s n1.1 e4 → w'.cell? ⟨xb, 2, none⟩ = some (.int .i64 e4.2.1.1) := fun w' h => h.x2
    have Y3 : ∀ w' : World, TeS w' w.heap.size xb s n1.1 e4 → w'.cell? ⟨xb, 3, none⟩ = some (.int .i64 e4.2.1.2.1) := fun w' h => h.x3
    have Y4 : ∀ w' : World, TeS w' w.heap.size xb s n1.1 e4 → w'.cell? ⟨xb, 4, none⟩ = some (.int .i64 e4.2.1.2.2.1) := fun w' h => h.x4
    have Y5 : ∀ w' : World, TeS w' w.heap.size xb s n1.1 e4 → w'.cell? ⟨xb, 5, none⟩ = some (.int .i64 e4.2.1.2.2.2) := fun w' h => h.x5
    have Y6 : ∀ w' : World, TeS w' w.heap.size xb s n1.1 e4 → w'.cell? ⟨xb, 6, none⟩ = some (.int .i64 e4.2.2) := fun w' h => h.x6
    clear l1 l2 l3 l4
    refine wpH_take (i := 0) (v := (.agg #[.string s, .int .i64 n1.1.at_, .int .i64 n1.1.er])) (some 36) rfl rfl (by kernel_rfl) (by kernel_rfl) (by kernel_rfl) (fun _ _ _ h => h) (Or.inl ⟨by rfl, fun w' hS => (by have z0 := X0 _ hS; have z1 := X1 _ hS; have z2 := X2 _ hS; go_simp)⟩) s0 ?_
    try simp only [Go.Act.put, List.setIfInBounds_toArray, List.set_cons_zero, List.set_cons_succ]
    refine wpH_take (i := 1) (v := (.agg #[.int .u16 e4.1.1, .string e4.1.2, .int .i64 e4.2.1.1, .int .i64 e4.2.1.2.1, .int .i64 e4.2.1.2.2.1, .int .i64 e4.2.1.2.2.2, .int .i64 e4.2.2])) (some 37) rfl rfl (by kernel_rfl) (by kernel_rfl) (by kernel_rfl) (fun _ _ _ h => h) (Or.inl ⟨by rfl, fun w' hS => (by have z0 := Y0 _ hS; have z1 := Y1 _ hS; have z2 := Y2 _ hS; have z3 := Y3 _ hS; have z4 := Y4 _ hS; have z5 := Y5 _ hS; have z6 := Y6 _ hS; go_simp)⟩) s0 ?_
    try simp only [Go.Act.put, List.setIfInBounds_toArray, List.set_cons_zero, List.set_cons_succ]
    refine wpH_call (i := 2) (o := { dst := none, op := Op.store 113 (Operand.tmp 8) (Operand.tmp 36), type := 0, pos := _, after := #[{ on := 0, ground := Ground.data }, { on := 0, ground := Ground.phase }, { on := 1, ground := Ground.textOnly Departure.lateStores }], guard := none }) (by kernel_rfl) rfl (fun K' hK => ?_)
    rw [if_pos (by rfl)]
    have m0 := cell_of (n := 0) g4 rfl
    have m1 := cell_of (n := 1) g4 rfl
    have m2 := cell_of (n := 2) g4 rfl
    have f0 := froz_at g4 0
    have f1 := froz_at g4 1
    have f2 := froz_at g4 2
    go_simp
    clear m0 m1 m2 f0 f1 f2
    obtain ⟨E1, hE1⟩ : ∃ E1, E1 = (((W4).setCell ⟨b2, 0, none⟩ (.string s)).setCell ⟨b2, 1, none⟩ (.int .i64 n1.1.at_)).setCell ⟨b2, 2, none⟩ (.int .i64 n1.1.er) := ⟨_, rfl⟩
    rw [← hE1]
    obtain ⟨s1, g5, h4, te1⟩ := HE1.out E1 hE1
    clear hE1
    refine hK.out _ _ s1 ?_
    clear hK
    try simp only [Go.Act.put, List.setIfInBounds_toArray, List.set_cons_zero, List.set_cons_succ]
    refine wpH_call (i := 3) (o := { dst := none, op := Op.store 88 (Operand.tmp 9) (Operand.tmp 37), type := 0, pos := _, after := #[{ on := 1, ground := Ground.data }, { on := 2, ground := Ground.chain }, { on := 0, ground := Ground.phase }, { on := 1, ground := Ground.phase }, { on := 2, ground := Ground.phase }], guard := none }) (by kernel_rfl) rfl (fun K' hK => ?_)
    rw [if_pos (by rfl)]
    have m0 := cell_of (n := 0) g5 rfl
    have m1 := cell_of (n := 1) g5 rfl
    have m2 := cell_of (n := 2) g5 rfl
    have m3 := cell_of (n := 3) g5 rfl
    have m4 := cell_of (n := 4) g5 rfl
    have m5 := cell_of (n := 5) g5 rfl
    have m6 := cell_of (n := 6) g5 rfl
    have f0 := froz_at g5 0
    have f1 := froz_at g5 1
    have f2 := froz_at g5 2
    have f3 := froz_at g5 3
    have f4 := froz_at g5 4
    have f5 := froz_at g5 5
    have f6 := froz_at g5 6
    go_simp
    clear m0 m1 m2 m3 m4 m5 m6 f0 f1 f2 f3 f4 f5 f6
    obtain ⟨E2, hE2⟩ : ∃ E2, E2 = (((((((E1).setCell ⟨b3, 0, none⟩ (.int .u16 e4.1.1)).setCell ⟨b3, 1, none⟩ (.string e4.1.2)).setCell ⟨b3, 2, none⟩ (.int .i64 e4.2.1.1)).setCell ⟨b3, 3, none⟩ (.int .i64 e4.2.1.2.1)).setCell ⟨b3, 4, none⟩ (.int .i64 e4.2.1.2.2.1)).setCell ⟨b3, 5, none⟩ (.int .i64 e4.2.1.2.2.2)).setCell ⟨b3, 6, none⟩ (.int .i64 e4.2.2) := ⟨_, rfl⟩
    rw [← hE2]
    obtain ⟨s2, h5, h4b, te2⟩ := HE2.out E1 E2 s1 g5 h4 hE2
    clear hE2
    refine hK.out _ _ s2 ?_
    clear hK
    try simp only [Go.Act.put, List.setIfInBounds_toArray, List.set_cons_zero, List.set_cons_succ]
    refine wpAnyH_done (by kernel_rfl) ?_ _
    go_wp2_with fail
    have u0 : E2.cell? ⟨b2, 0, none⟩ = some (.string s) := cell_of h4b rfl
    have u1 : E2.cell? ⟨b2, 1, none⟩ = some (.int .i64 n1.1.at_) := cell_of h4b rfl
    have u2 : E2.cell? ⟨b2, 2, none⟩ = some (.int .i64 n1.1.er) := cell_of h4b rfl
    have v0 : E2.cell? ⟨b3, 0, none⟩ = some (.int .u16 e4.1.1) := cell_of h5 rfl
    have v1 : E2.cell? ⟨b3, 1, none⟩ = some (.string e4.1.2) := cell_of h5 rfl
    have v2 : E2.cell? ⟨b3, 2, none⟩ = some (.int .i64 e4.2.1.1) := cell_of h5 rfl
    have v3 : E2.cell? ⟨b3, 3, none⟩ = some (.int .i64 e4.2.1.2.1) := cell_of h5 rfl
    have v4 : E2.cell? ⟨b3, 4, none⟩ = some (.int .i64 e4.2.1.2.2.1) := cell_of h5 rfl
    have v5 : E2.cell? ⟨b3, 5, none⟩ = some (.int .i64 e4.2.1.2.2.2) := cell_of h5 rfl
    have v6 : E2.cell? ⟨b3, 6, none⟩ = some (.int .i64 e4.2.2) := cell_of h5 rfl
    exact bodyPost_ret (v := .tuple #[.agg #[.string s, .int .i64 n1.1.at_, .int .i64 n1.1.er], .agg #[.int .u16 e4.1.1, .string e4.1.2, .int .i64 e4.2.1.1, .int .i64 e4.2.1.2.1, .int .i64 e4.2.1.2.2.1, .int .i64 e4.2.1.2.2.2, .int .i64 e4.2.2]]) (by simp [results, Tryz.results51, go_sem, u0, u1, u2, v0, v1, v2, v3, v4, v5, v6]) rfl (DeE.of e4 (by rw [HX.out]; rfl) (fun hz => (he (by rw [HX.out] at hz; exact hz)).elim) ((HTW.out.trans te1 (fun k hk => by simp at hk; have := HL.out; omega)).trans te2 (fun k hk => by simp at hk; have := HL.out; omega)).drew)
end Go.Proofs.YtpefbmheblfbeaaGreat.Sn
