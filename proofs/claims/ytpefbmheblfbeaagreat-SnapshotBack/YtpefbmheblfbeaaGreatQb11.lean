/- The contract of the program's patched: the three lists of a patch are taken, and the entries that come out of them answered; the text's length is a number of the language's, the reader stands within the text. -/
import Derived.Test.YtpefbmheblfbeaaGreatQb10
import Derived.Test.YtpefbmheblfbeaaGreatQb01
import Derived.Test.YtpefbmheblfbeaaGreatQb03
import Derived.Shelf.SlMaps.Clone
namespace Go.Proofs.YtpefbmheblfbeaaGreat.Sn
open Go.RowKit Go.Sort Go.Shelf Go.Maps Go.ChangeMaps Me
set_option linter.unusedVariables false
set_option linter.unusedSimpArgs false
def q5 (s : ByteArray) (x : Rd) (c : Cf) (ys : List En) : Rd × List K := lstR s x c.e (fun k => (getS ys k).2)
def q6 (s : ByteArray) (x : Rd) (c : Cf) (now : Int) (ys : List En) : Rd × List En := entsR s c now (numR s (q5 s x c ys).1 0 c.e).2.toNat (numR s (q5 s x c ys).1 0 c.e).1 []
def q7 (s : ByteArray) (x : Rd) (c : Cf) (now : Int) (ys : List En) : Rd × List K := lstR s (q6 s x c now ys).1 c.e (fun k => (fndN (q5 s x c ys).2 (q6 s x c now ys).2 ys k).isSome)
def q9 (s : ByteArray) (x : Rd) (c : Cf) (now : Int) (ys : List En) : List En := (q7 s x c now ys).2.map (entN (q5 s x c ys).2 (q6 s x c now ys).2 ys)
theorem getN_ent (G : List K) (os ys : List En) (k : K) : getN G os ys k = (nv (entN G os ys k), (fndN G os ys k).isSome) := by
  unfold getN entN fndN getS
  by_cases hg : hs G k = true
  · rw [if_pos hg, if_pos hg]; rfl
  · rw [if_neg hg, if_neg hg]
    cases fnd os.reverse k with
    | some v => rfl
    | none => cases fnd ys k <;> rfl
theorem pfn_ {w : World} {m b : Nat} {F : List Nat} {c : Cf} {now : Int} {ys : List En} (hb : w.heap[b]? = some (.cells #[PT m] 28 (0, 0))) (h : Mq w m F c now ys) (k : K) (hk : Ok k) : Calls Tryz.prog 105 #[kv k, PT b] w fun e w' => e = .returned (.bool (getS ys k).2) ∧ Touch [] w w' := by
  obtain ⟨V, hV⟩ : ∃ V, V = w.alloc (.cells #[.int .u16 k.1, .string k.2] 54) := ⟨_, rfl⟩
  have TV : Touch [] w V := by rw [hV]; exact (Touch.refl _ _).alloc _
  have hx : V.heap[w.heap.size]? = some (.cells #[.int .u16 k.1, .string k.2] 54 (0, 0)) := by rw [hV]; exact heap_alloc_new w _
  have h4 := TV.keep hb (by simp)
  have HH := hid (phas_ (h.keep0 TV) k hk)
  have x0 := cell_of (n := 0) hx rfl
  have x1 := cell_of (n := 1) hx rfl
  have x4 := cell_of (n := 0) h4 rfl
  have HTV := hid TV
  generalize (getS ys k).2 = bb at *
  unfold kv PT at *
  clear h hk hb hx h4 TV
  go_enter Tryz.func105, Tryz.ntmps105
  go_upto_region 1 with fail
  rw [← hV]
  clear hV
  go_wp2_with (go_at_call 101; refine HH.out.mono ?_; rintro e w2 ⟨rfl, t2⟩; have T2 := hid (HTV.out.trans' t2); clear t2)
  go_ret
  exact ⟨rfl, T2.out⟩
theorem q9_take {G : List K} {os ys : List En} {ks : List K} {i : Nat} (h : i < ks.length) : ((ks.map (entN G os ys)).take (i + 1)) = ((ks.map (entN G os ys)).take i) ++ [entN G os ys ks[i]] := by
  rw [List.take_succ_eq_append_getElem (by simpa using h)]; simp
set_option maxRecDepth 100000 in
set_option maxHeartbeats 8000000 in
theorem patched_ {w : World} {r m : Nat} {s : ByteArray} {x : Rd} {F : List Nat} {c : Cf} {n0 now : Int} {ys : List En} (hm : Mq w m F c n0 ys) (h : Rq w r s x) (hi : Rin s x) (hs : s.size ≤ 140737488351232) (hn : 0 ≤ now ∧ now ≤ 9223372036854775807) : Calls Tryz.prog 66 #[PT r, PT m, .int .i64 now] w fun e w' => ∃ v, e = .returned v ∧ w'.ownsRow w.heap.size 60 7 v (q9 s x c now ys).length (cellsN (q9 s x c now ys)) ∧ Rq w' r s (q7 s x c now ys).1 ∧ Touch [r] w w' := by
  have hc := okC_e hm.gd.oc
  have hrF : ¬ r ∈ F := hm.away h (by decide) (by decide) (by decide)
  have HM := hid (fun w' (t : Touch [r] w w') => hm.keep t (fun k hk e => hrF (by simp at e; rw [← e]; exact hk)))
  have hr := h.lt
  -- the box of the old memo, and that of its configuration
  obtain ⟨W0, hW0⟩ : ∃ W0, W0 = w.alloc (.cells #[PT m] 28) := ⟨_, rfl⟩
  obtain ⟨b4, hb4⟩ : ∃ b4, b4 = w.heap.size := ⟨_, rfl⟩
  have tW0 : Touch [] w W0 := by rw [hW0]; exact (Touch.refl _ _).alloc _
  have hB4 : W0.heap[b4]? = some (.cells #[PT m] 28 (0, 0)) := by rw [hW0, hb4]; exact heap_alloc_new w _
  have HCF := hid (show Calls Tryz.prog 35 #[PT m] W0 fun e w'' => e = .returned (cv c) ∧ Touch [] W0 w'' from by obtain ⟨b, o, G, _, hb⟩ := HM.out W0 (tW0.mono (by simp)); exact config27 W0 m c n0 b o hb.md)
  have x4 := cell_of (n := 0) hB4 rfl
  have HB4 := hid hB4
  have HR2 : Hid (r < w.heap.size ∧ b4 = w.heap.size) := hid ⟨hr, hb4⟩
  have HT0 := hid tW0
  have HQ := hid h
  have HI := hid hi
  have HS0 := hid hs
  have HNW := hid hn
  have HC := hid hc
  clear h hm hi hs hn hc tW0 hB4 hrF hr
  unfold cv at HCF
  unfold PT at *
  go_enter Tryz.func66, Tryz.ntmps66
  go_upto_region 1 with fail
  rw [← hW0]
  try rw [← hb4]
  clear hW0 hb4
  go_upto_region 2 with (go_at_call 35; refine HCF.out.mono ?_; rintro e v1 ⟨rfl, t1⟩; have T1 := hid (HT0.out.trans' t1); have Y4 := hid (t1.keep HB4.out (by simp)); clear t1)
  obtain ⟨W1, hW1⟩ : ∃ W1, W1 = v1.alloc (.cells #[.int .i64 c.t, .int .i64 c.n, .int .i64 c.s, .int .i64 c.e, .int .i64 c.f, .int .i64 c.b, .int .i64 c.d] 23) := ⟨_, rfl⟩
  obtain ⟨b7, hb7⟩ : ∃ b7, b7 = v1.heap.size := ⟨_, rfl⟩
  have tW1 : Touch [] v1 W1 := by rw [hW1]; exact (Touch.refl _ _).alloc _
  have hB7 : W1.heap[b7]? = some (.cells #[.int .i64 c.t, .int .i64 c.n, .int .i64 c.s, .int .i64 c.e, .int .i64 c.f, .int .i64 c.b, .int .i64 c.d] 23 (0, 0)) := by rw [hW1, hb7]; exact heap_alloc_new v1 _
  have hB4' := tW1.keep Y4.out (by simp)
  have HN47 : Hid (b4 ≠ r ∧ b7 ≠ r) := hid (by have := HR2.out; have := T1.out.size; omega)
  have HS1 : Hid (∀ w', Touch [r] W1 w' → (w'.heap[b4]? = some (.cells #[.pointer (some ⟨m, 0, none⟩)] 28 (0, 0)) ∧ w'.heap[b7]? = some (.cells #[.int .i64 c.t, .int .i64 c.n, .int .i64 c.s, .int .i64 c.e, .int .i64 c.f, .int .i64 c.b, .int .i64 c.d] 23 (0, 0)))) := hid (fun w' t => ⟨t.keep hB4' (by simpa using HN47.out.1), t.keep hB7 (by simpa using HN47.out.2)⟩)
  have TW1 := hid (T1.out.trans' tW1)
  have y3 := cell_of (n := 3) hB7 rfl
  rw [← hW1]
  try rw [← hb7]
  clear hW1 hb7 tW1 hB7 hB4' x4
  have Q1 := hid (HQ.out.keep0 TW1.out)
  have KA : Hid (KeyC (.func (.func 105) #[] #[PT b4]) r s (fun k => (getS ys k).2) W1) := hid (keyC_a HS0.out (fun w' t k hk => pfn_ (HS1.out w' t).1 (HM.out w' ((TW1.out.mono (by simp)).trans' t)) k hk))
  have H5 := hid (keys_r KA Q1.out HI.out HS0.out c.e HC.out)
  obtain ⟨y5, hy5⟩ : ∃ y5, y5 = (q5 s x c ys).1 := ⟨_, rfl⟩
  obtain ⟨G, hG⟩ : ∃ G, G = (q5 s x c ys).2 := ⟨_, rfl⟩
  have I5 : Hid (Rin s y5) := hid (by rw [hy5]; exact Rin.keysG _ _ (HI.out.num _ _))
  have OG : Hid (∀ k ∈ G, Ok k) := hid (by rw [hG]; exact keysG_ok _ _ [] (fun e he => by cases he))
  have LG : Hid (G.length ≤ 70000) := hid (by
    rw [hG]
    have q1 := keysG_len (s := s) (may := fun k => (getS ys k).2) (numR s x 0 c.e).2.toNat (numR s x 0 c.e).1 []
    have q2 := numR_v (s := s) (x := x) (a := 0) (b := c.e) (by omega) HC.out.1
    have q3 := HC.out
    simp at q1
    show (keysG s _ _ _ _).2.length ≤ _
    omega)
  have e5 : lstR s x c.e (fun k => (getS ys k).2) = (y5, G) := by rw [hy5, hG]; rfl
  rw [e5] at H5
  have Hy5 := hid hy5
  have HGq := hid hG
  clear e5 hy5 hG KA
  unfold PT at H5
  go_upto_region 3 with (go_at_call 104; refine H5.out.mono ?_; rintro e w2 ⟨v2, rfl, o2, qq2, tt2⟩; obtain ⟨a2, c2, e2⟩ := own_form o2; subst e2)
  have T2 := hid tt2
  have Q2 := hid qq2
  have O2 := hid o2
  clear o2 qq2 tt2 H5 y3
  -- the drawn region: the maps, the entries between
  obtain ⟨y6, hy6⟩ : ∃ y6, y6 = (q6 s x c now ys).1 := ⟨_, rfl⟩
  obtain ⟨os, hos⟩ : ∃ os, os = (q6 s x c now ys).2 := ⟨_, rfl⟩
  have HO6 : Hid ((∀ z ∈ os, Ok z.1) ∧ os.length ≤ 70000 ∧ Rin s y6) := hid (by
    rw [hos, hy6]
    refine ⟨entsR_ok _ _ [] (fun e he => by cases he), ?_, ?_⟩
    · have q1 := entsR_len (s := s) (c := c) (now := now) (numR s (q5 s x c ys).1 0 c.e).2.toNat (numR s (q5 s x c ys).1 0 c.e).1 []
      have q2 := numR_v (s := s) (x := (q5 s x c ys).1) (a := 0) (b := c.e) (by omega) HC.out.1
      have q3 := HC.out
      simp at q1
      unfold q6
      omega
    · exact Rin.ents _ _ ((by rw [← Hy5.out]; exact I5.out : Rin s (q5 s x c ys).1).num _ _))
  have HS : Hid (∀ w', Touch [r] w2 w' → (w'.heap[b4]? = some (.cells #[.pointer (some ⟨m, 0, none⟩)] 28 (0, 0)) ∧ w'.heap[b7]? = some (.cells #[.int .i64 c.t, .int .i64 c.n, .int .i64 c.s, .int .i64 c.e, .int .i64 c.f, .int .i64 c.b, .int .i64 c.d] 23 (0, 0)))) := hid (fun w' t => HS1.out w' (T2.out.trans' t))
  have HPl : Hid (∀ w', Touch [r] w2 w' → Calls Tryz.prog 106 #[.slice a2 G.length c2] w' fun e w'' => ∃ gb, e = .returned (.map (some gb)) ∧ w'.heap.size ≤ gb ∧ Touch [] w' w'' ∧ Gm w'' gb G) := hid (fun w' t => placesOf_ (Rs.of_own (own_touch O2.out t (fun b hb e => by
    have h1 := (O2.out.lt b hb).1
    simp at e
    have := HR2.out
    have := TW1.out.size
    omega))) OG.out LG.out)
  have HEn : Hid (∀ w', Rq w' r s y5 → Touch [r] w2 w' → Calls Tryz.prog 47 #[.pointer (some ⟨r, 0, none⟩), .agg #[.int .i64 c.t, .int .i64 c.n, .int .i64 c.s, .int .i64 c.e, .int .i64 c.f, .int .i64 c.b, .int .i64 c.d], .int .i64 now] w' fun e w'' => ∃ v, e = .returned v ∧ w''.ownsRow w'.heap.size 60 7 v os.length (cellsN os) ∧ Rq w'' r s y6 ∧ Touch [r] w' w'') := hid (fun w' q t => by
    have := entries_r q I5.out HS0.out c HC.out now HNW.out
    rw [hos, hy6]
    unfold q6
    rw [← Hy5.out]
    exact this)
  have HBy : Hid (∀ w' v B, w'.ownsRow B 60 7 v os.length (cellsN os) → Calls Tryz.prog 107 #[v] w' fun e w'' => ∃ gb, e = .returned (.map (some gb)) ∧ w'.heap.size ≤ gb ∧ Touch [] w' w'' ∧ Om w'' gb os) := hid (fun w' v B o => byKey_ o HO6.out.1 HO6.out.2.1)
  have HR2 : Hid (r < w2.heap.size) := hid (by have := HR2.out; have := TW1.out.size; have := T2.out.size; omega)
  have Hy6 := hid hy6
  have Hos := hid hos
  obtain ⟨n2, hn2⟩ : ∃ n2, n2 = G.length := ⟨_, rfl⟩
  obtain ⟨n6, hn6⟩ : ∃ n6, n6 = os.length := ⟨_, rfl⟩
  rw [← hn2] at HPl
  rw [← hn6] at HEn HBy
  rw [← hn2]
  have Hn2 := hid hn2
  have Hn6 := hid hn6
  clear hy6 hos hn2 hn6
  have C0 : ∀ w' : World, (w'.heap[b4]? = some (.cells #[.pointer (some ⟨m, 0, none⟩)] 28 (0, 0)) ∧ w'.heap[b7]? = some (.cells #[.int .i64 c.t, .int .i64 c.n, .int .i64 c.s, .int .i64 c.e, .int .i64 c.f, .int .i64 c.b, .int .i64 c.d] 23 (0, 0))) → w'.cell? ⟨b4, 0, none⟩ = some (.pointer (some ⟨m, 0, none⟩)) := fun w' h => cell_at h.1 rfl
  have Y0 : ∀ w' : World, (w'.heap[b4]? = some (.cells #[.pointer (some ⟨m, 0, none⟩)] 28 (0, 0)) ∧ w'.heap[b7]? = some (.cells #[.int .i64 c.t, .int .i64 c.n, .int .i64 c.s, .int .i64 c.e, .int .i64 c.f, .int .i64 c.b, .int .i64 c.d] 23 (0, 0))) → w'.cell? ⟨b7, 0, none⟩ = some (.int .i64 c.t) := fun w' h => cell_at h.2 rfl
  have Y1 : ∀ w' : World, (w'.heap[b4]? = some (.cells #[.pointer (some ⟨m, 0, none⟩)] 28 (0, 0)) ∧ w'.heap[b7]? = some (.cells #[.int .i64 c.t, .int .i64 c.n, .int .i64 c.s, .int .i64 c.e, .int .i64 c.f, .int .i64 c.b, .int .i64 c.d] 23 (0, 0))) → w'.cell? ⟨b7, 1, none⟩ = some (.int .i64 c.n) := fun w' h => cell_at h.2 rfl
  have Y2 : ∀ w' : World, (w'.heap[b4]? = some (.cells #[.pointer (some ⟨m, 0, none⟩)] 28 (0, 0)) ∧ w'.heap[b7]? = some (.cells #[.int .i64 c.t, .int .i64 c.n, .int .i64 c.s, .int .i64 c.e, .int .i64 c.f, .int .i64 c.b, .int .i64 c.d] 23 (0, 0))) → w'.cell? ⟨b7, 2, none⟩ = some (.int .i64 c.s) := fun w' h => cell_at h.2 rfl
  have Y3 : ∀ w' : World, (w'.heap[b4]? = some (.cells #[.pointer (some ⟨m, 0, none⟩)] 28 (0, 0)) ∧ w'.heap[b7]? = some (.cells #[.int .i64 c.t, .int .i64 c.n, .int .i64 c.s, .int .i64 c.e, .int .i64 c.f, .int .i64 c.b, .int .i64 c.d] 23 (0, 0))) → w'.cell? ⟨b7, 3, none⟩ = some (.int .i64 c.e) := fun w' h => cell_at h.2 rfl
  have Y4 : ∀ w' : World, (w'.heap[b4]? = some (.cells #[.pointer (some ⟨m, 0, none⟩)] 28 (0, 0)) ∧ w'.heap[b7]? = some (.cells #[.int .i64 c.t, .int .i64 c.n, .int .i64 c.s, .int .i64 c.e, .int .i64 c.f, .int .i64 c.b, .int .i64 c.d] 23 (0, 0))) → w'.cell? ⟨b7, 4, none⟩ = some (.int .i64 c.f) := fun w' h => cell_at h.2 rfl
  have Y5 : ∀ w' : World, (w'.heap[b4]? = some (.cells #[.pointer (some ⟨m, 0, none⟩)] 28 (0, 0)) ∧ w'.heap[b7]? = some (.cells #[.int .i64 c.t, .int .i64 c.n, .int .i64 c.s, .int .i64 c.e, .int .i64 c.f, .int .i64 c.b, .int .i64 c.d] 23 (0, 0))) → w'.cell? ⟨b7, 5, none⟩ = some (.int .i64 c.b) := fun w' h => cell_at h.2 rfl
  have Y6 : ∀ w' : World, (w'.heap[b4]? = some (.cells #[.pointer (some ⟨m, 0, none⟩)] 28 (0, 0)) ∧ w'.heap[b7]? = some (.cells #[.int .i64 c.t, .int .i64 c.n, .int .i64 c.s, .int .i64 c.e, .int .i64 c.f, .int .i64 c.b, .int .i64 c.d] 23 (0, 0))) → w'.cell? ⟨b7, 6, none⟩ = some (.int .i64 c.d) := fun w' h => cell_at h.2 rfl
  go_cut [9] from 22 to 30 (fun a wx => ∃ nb gb ob, a = .pointer (some ⟨nb, 0, none⟩) ∧ Hid (wx.heap[nb]? = some (.cells #[.pointer (some ⟨m, 0, none⟩), .map (some gb), .map (some ob)] 187 (0, 0)) ∧ Touch [r] w2 wx ∧ Rq wx r s y6 ∧ Gm wx gb G ∧ Om wx ob os ∧ gb ≠ r ∧ ob ≠ r))
  case first =>
    have T0 : Hid (Touch [r] w2 w2.drew) := hid (Touch.refl _ _).drew
    have Q0 : Hid (Rq w2.drew r s y5) := hid Q2.out
    have s0 := HS.out _ T0.out
    refine wp_region_H (S := fun w' => (w'.heap[b4]? = some (.cells #[.pointer (some ⟨m, 0, none⟩)] 28 (0, 0)) ∧ w'.heap[b7]? = some (.cells #[.int .i64 c.t, .int .i64 c.n, .int .i64 c.s, .int .i64 c.e, .int .i64 c.f, .int .i64 c.b, .int .i64 c.d] 23 (0, 0)))) (by kernel_rfl) ?_
    generalize w2.drew = Wd at *
    refine wpH_take (i := 0) (v := (.pointer (some ⟨m, 0, none⟩))) (some 22) rfl rfl (by kernel_rfl) (by kernel_rfl) (by kernel_rfl) (fun _ _ _ h => h) (Or.inl ⟨by rfl, fun w' hS => (by have z0 := C0 _ hS; go_simp)⟩) s0 ?_
    try simp only [Go.Act.put, List.setIfInBounds_toArray, List.set_cons_zero, List.set_cons_succ]
    refine wpH_take (i := 1) (v := (Value.slice a2 n2 c2)) (some 23) rfl rfl (by kernel_rfl) (by kernel_rfl) (by kernel_rfl) (fun _ _ _ h => h) (Or.inl ⟨by rfl, fun w' hS => (by go_simp)⟩) s0 ?_
    try simp only [Go.Act.put, List.setIfInBounds_toArray, List.set_cons_zero, List.set_cons_succ]
    refine wpH_take (i := 3) (v := (.pointer (some ⟨r, 0, none⟩))) (some 25) rfl rfl (by kernel_rfl) (by kernel_rfl) (by kernel_rfl) (fun _ _ _ h => h) (Or.inl ⟨by rfl, fun w' hS => (by go_simp)⟩) s0 ?_
    try simp only [Go.Act.put, List.setIfInBounds_toArray, List.set_cons_zero, List.set_cons_succ]
    refine wpH_take (i := 4) (v := (.agg #[.int .i64 c.t, .int .i64 c.n, .int .i64 c.s, .int .i64 c.e, .int .i64 c.f, .int .i64 c.b, .int .i64 c.d])) (some 26) rfl rfl (by kernel_rfl) (by kernel_rfl) (by kernel_rfl) (fun _ _ _ h => h) (Or.inl ⟨by rfl, fun w' hS => (by have z0 := Y0 _ hS; have z1 := Y1 _ hS; have z2 := Y2 _ hS; have z3 := Y3 _ hS; have z4 := Y4 _ hS; have z5 := Y5 _ hS; have z6 := Y6 _ hS; go_simp)⟩) s0 ?_
    try simp only [Go.Act.put, List.setIfInBounds_toArray, List.set_cons_zero, List.set_cons_succ]
    refine wpH_take (i := 5) (v := (.int .i64 now)) (some 27) rfl rfl (by kernel_rfl) (by kernel_rfl) (by kernel_rfl) (fun _ _ _ h => h) (Or.inl ⟨by rfl, fun w' hS => (by go_simp)⟩) s0 ?_
    try simp only [Go.Act.put, List.setIfInBounds_toArray, List.set_cons_zero, List.set_cons_succ]
    refine wpH_ready (rs := [2, 9]) (by kernel_rfl) (by simp) ?_
    refine AllH.cons (o := { dst := some 24, op := Op.call { callee := Callee.value (Operand.func 106), args := #[Operand.tmp 23], argTypes := #[61] }, type := 174, pos := _, after := #[{ on := 1, ground := Ground.data }], guard := none }) rfl (fun K' hK => ?_) ?_
    · rw [if_pos (by rfl)]
      go_simp
      refine (HPl.out _ T0.out).mono ?_
      rintro e v1 ⟨gb, rfl, hgb, t1, hg1⟩
      have T1 := hid (T0.out.trans' (t1.mono (by simp)))
      have G1 := hid hg1
      have NG : Hid (gb ≠ r) := hid (by have := T0.out.size; have := HR2.out; omega)
      have Q1 := hid (Q0.out.keep0 t1)
      have s1 := HS.out _ T1.out
      refine hK.out _ _ s1 ?_
      clear hK
      try simp only [Go.Act.put, List.setIfInBounds_toArray, List.set_cons_zero, List.set_cons_succ]
      refine wpH_ready (rs := [6, 9]) (by kernel_rfl) (by simp) ?_
      refine AllH.cons (o := { dst := some 28, op := Op.call { callee := Callee.value (Operand.func 47), args := #[Operand.tmp 25, Operand.tmp 26, Operand.tmp 27], argTypes := #[106, 23, 2] }, type := 24, pos := _, after := #[{ on := 3, ground := Ground.data }, { on := 4, ground := Ground.data }, { on := 5, ground := Ground.data }, { on := 2, ground := Ground.chain }], guard := none }) rfl (fun K' hK => ?_) ?_
      · rw [if_pos (by rfl)]
        go_simp
        refine (HEn.out _ Q1.out T1.out).mono ?_
        rintro e v2 ⟨u6, rfl, o6, q6, t2⟩
        obtain ⟨a6, c6, e6⟩ := own_form o6
        subst e6
        have T2 := hid (T1.out.trans' t2)
        have O6 := hid o6
        have Q2 := hid q6
        have G2 := hid (G1.out.kept (t2.block gb G1.out.lt (by simpa using NG.out)))
        clear o6 q6
        have s2 := HS.out _ T2.out
        refine hK.out _ _ s2 ?_
        clear hK
        try simp only [Go.Act.put, List.setIfInBounds_toArray, List.set_cons_zero, List.set_cons_succ]
        refine wpH_ready (rs := [7, 9]) (by kernel_rfl) (by simp) ?_
        refine AllH.cons (o := { dst := some 29, op := Op.call { callee := Callee.value (Operand.func 107), args := #[Operand.tmp 28], argTypes := #[24] }, type := 184, pos := _, after := #[{ on := 6, ground := Ground.data }, { on := 6, ground := Ground.chain }], guard := none }) rfl (fun K' hK => ?_) ?_
        · rw [if_pos (by rfl)]
          go_simp
          refine (HBy.out _ _ _ O6.out).mono ?_
          rintro e v3 ⟨ob, rfl, hob, t3, ho3⟩
          have T3 := hid (T2.out.trans' (t3.mono (by simp)))
          have OM3 := hid ho3
          have NO : Hid (ob ≠ r) := hid (by have := T2.out.size; have := HR2.out; omega)
          have Q3 := hid (Q2.out.keep0 t3)
          have G3 := hid (G2.out.kept (t3.block gb G2.out.lt (by simp)))
          have s3 := HS.out _ T3.out
          refine hK.out _ _ s3 ?_
          clear hK
          try simp only [Go.Act.put, List.setIfInBounds_toArray, List.set_cons_zero, List.set_cons_succ]
          refine wpH_take (i := 8) (v := (.agg #[.pointer (some ⟨m, 0, none⟩), .map (some gb), .map (some ob)])) (some 30) rfl rfl (by kernel_rfl) (by kernel_rfl) (by kernel_rfl) (fun _ _ _ h => h) (Or.inl ⟨by rfl, fun w' hS => (by go_simp)⟩) s3 ?_
          try simp only [Go.Act.put, List.setIfInBounds_toArray, List.set_cons_zero, List.set_cons_succ]
          refine wpH_call (i := 9) (o := { dst := some 9, op := Op.alloc 187, type := 0, pos := _, after := #[], guard := none }) (by kernel_rfl) rfl (fun K' hK => ?_)
          rw [if_pos (by rfl)]
          go_simp
          have B4 := hid (heap_alloc_new v3 (.cells #[.pointer none, .map none, .map none] 187))
          have t4 := (Touch.refl [] v3).alloc (.cells #[.pointer none, .map none, .map none] 187)
          have T4 := hid (T3.out.alloc (.cells #[.pointer none, .map none, .map none] 187))
          have Q4 := hid (Q3.out.keep0 t4)
          have NB4 : Hid (v3.heap.size ≠ r) := hid (by have := T3.out.size; have := HR2.out; omega)
          have G4 := hid (G3.out.kept (t4.block gb G3.out.lt (by simp)))
          have OM4 := hid (OM3.out.kept (t4.block ob OM3.out.lt (by simp)))
          have s4 := HS.out _ T4.out
          have NGB : Hid (gb ≠ v3.heap.size) := hid (by have := G3.out.lt; omega)
          have NOB : Hid (ob ≠ v3.heap.size) := hid (by have := OM3.out.lt; omega)
          refine hK.out _ _ s4 ?_
          clear hK
          try simp only [Go.Act.put, List.setIfInBounds_toArray, List.set_cons_zero, List.set_cons_succ]
          refine wpH_call (i := 10) (o := { dst := none, op := Op.store 187 (Operand.tmp 9) (Operand.tmp 30), type := 0, pos := _, after := #[{ on := 9, ground := Ground.data }, { on := 8, ground := Ground.data }, { on := 7, ground := Ground.chain }, { on := 0, ground := Ground.phase }, { on := 1, ground := Ground.phase }, { on := 2, ground := Ground.phase }, { on := 3, ground := Ground.phase }, { on := 4, ground := Ground.phase }, { on := 5, ground := Ground.phase }, { on := 6, ground := Ground.phase }, { on := 7, ground := Ground.phase }, { on := 8, ground := Ground.phase }, { on := 9, ground := Ground.phase }], guard := none }) (by kernel_rfl) rfl (fun K' hK => ?_)
          rw [if_pos (by rfl)]
          have m0 := cell_of (n := 0) B4.out rfl
          have m1 := cell_of (n := 1) B4.out rfl
          have m2 := cell_of (n := 2) B4.out rfl
          have m3 := froz_at B4.out 0
          have m4 := froz_at B4.out 1
          have m5 := froz_at B4.out 2
          go_simp
          clear m0 m1 m2 m3 m4 m5
          have B9 := hid (heap_alloc_new v3 (.cells #[.pointer (some ⟨m, 0, none⟩), .map (some gb), .map (some ob)] 187))
          have t9 := (Touch.refl [] v3).alloc (.cells #[.pointer (some ⟨m, 0, none⟩), .map (some gb), .map (some ob)] 187)
          have T9 := hid (T3.out.alloc (.cells #[.pointer (some ⟨m, 0, none⟩), .map (some gb), .map (some ob)] 187))
          have Q9 := hid (Q3.out.keep0 t9)
          have G9 := hid (G3.out.kept (t9.block gb G3.out.lt (by simp)))
          have OM9 := hid (OM3.out.kept (t9.block ob OM3.out.lt (by simp)))
          have s9 := HS.out _ T9.out
          refine hK.out _ _ s9 ?_
          clear hK
          try simp only [Go.Act.put, List.setIfInBounds_toArray, List.set_cons_zero, List.set_cons_succ]
          refine wpAnyH_done (by kernel_rfl) ?_ _
          go_wp2_with fail
          go_meet
          exact ⟨v3.heap.size, gb, ob, rfl, hid ⟨B9.out, T9.out, Q9.out, G9.out, OM9.out, NG.out, NO.out⟩⟩
        refine AllH.cons (o := { dst := some 9, op := Op.alloc 187, type := 0, pos := _, after := #[], guard := none }) rfl (fun K' hK => ?_) ?_
        · rw [if_pos (by rfl)]
          go_simp
          have B6 := hid (heap_alloc_new v2 (.cells #[.pointer none, .map none, .map none] 187))
          have t6 := (Touch.refl [] v2).alloc (.cells #[.pointer none, .map none, .map none] 187)
          have T6 := hid (T2.out.alloc (.cells #[.pointer none, .map none, .map none] 187))
          have Q6 := hid (Q2.out.keep0 t6)
          have NB6 : Hid (v2.heap.size ≠ r) := hid (by have := T2.out.size; have := HR2.out; omega)
          have G6 := hid (G2.out.kept (t6.block gb G2.out.lt (by simp)))
          have O66 := hid (own_touch (F := []) O6.out t6 (fun _ _ e => by cases e))
          have s6 := HS.out _ T6.out
          have NGB : Hid (gb ≠ v2.heap.size) := hid (by have := G2.out.lt; omega)
          refine hK.out _ _ s6 ?_
          clear hK
          try simp only [Go.Act.put, List.setIfInBounds_toArray, List.set_cons_zero, List.set_cons_succ]
          refine wpH_call (i := 7) (o := { dst := some 29, op := Op.call { callee := Callee.value (Operand.func 107), args := #[Operand.tmp 28], argTypes := #[24] }, type := 184, pos := _, after := #[{ on := 6, ground := Ground.data }, { on := 6, ground := Ground.chain }], guard := none }) (by kernel_rfl) rfl (fun K' hK => ?_)
          rw [if_pos (by rfl)]
          go_simp
          refine (HBy.out _ _ _ O66.out).mono ?_
          rintro e v7 ⟨ob, rfl, hob, t7, ho7⟩
          have T7 := hid (T6.out.trans' (t7.mono (by simp)))
          have OM7 := hid ho7
          have NO : Hid (ob ≠ r) := hid (by have := T6.out.size; have := HR2.out; omega)
          have Q7 := hid (Q6.out.keep0 t7)
          have G7 := hid (G6.out.kept (t7.block gb G6.out.lt (by simp)))
          have B7 := hid (t7.keep B6.out (by simp))
          have s7 := HS.out _ T7.out
          have NOB : Hid (ob ≠ v2.heap.size) := hid (by have := block_lt B6.out; omega)
          refine hK.out _ _ s7 ?_
          clear hK
          try simp only [Go.Act.put, List.setIfInBounds_toArray, List.set_cons_zero, List.set_cons_succ]
          refine wpH_take (i := 8) (v := (.agg #[.pointer (some ⟨m, 0, none⟩), .map (some gb), .map (some ob)])) (some 30) rfl rfl (by kernel_rfl) (by kernel_rfl) (by kernel_rfl) (fun _ _ _ h => h) (Or.inl ⟨by rfl, fun w' hS => (by go_simp)⟩) s7 ?_
          try simp only [Go.Act.put, List.setIfInBounds_toArray, List.set_cons_zero, List.set_cons_succ]
          refine wpH_call (i := 10) (o := { dst := none, op := Op.store 187 (Operand.tmp 9) (Operand.tmp 30), type := 0, pos := _, after := #[{ on := 9, ground := Ground.data }, { on := 8, ground := Ground.data }, { on := 7, ground := Ground.chain }, { on := 0, ground := Ground.phase }, { on := 1, ground := Ground.phase }, { on := 2, ground := Ground.phase }, { on := 3, ground := Ground.phase }, { on := 4, ground := Ground.phase }, { on := 5, ground := Ground.phase }, { on := 6, ground := Ground.phase }, { on := 7, ground := Ground.phase }, { on := 8, ground := Ground.phase }, { on := 9, ground := Ground.phase }], guard := none }) (by kernel_rfl) rfl (fun K' hK => ?_)
          rw [if_pos (by rfl)]
          have m0 := cell_of (n := 0) B7.out rfl
          have m1 := cell_of (n := 1) B7.out rfl
          have m2 := cell_of (n := 2) B7.out rfl
          have m3 := froz_at B7.out 0
          have m4 := froz_at B7.out 1
          have m5 := froz_at B7.out 2
          go_simp
          clear m0 m1 m2 m3 m4 m5
          have B9 := hid (bset (i := 2) (bset (i := 1) (bset (i := 0) B7.out (.pointer (some ⟨m, 0, none⟩))) (.map (some gb))) (.map (some ob)))
          have t9 := ((((Touch.refl [v2.heap.size] v7).setCell (p := ⟨v2.heap.size, 0, none⟩) (Or.inl (by simp)) (.pointer (some ⟨m, 0, none⟩))).setCell (p := ⟨v2.heap.size, 1, none⟩) (Or.inl (by simp)) (.map (some gb))).setCell (p := ⟨v2.heap.size, 2, none⟩) (Or.inl (by simp)) (.map (some ob)))
          have T9 := hid (T7.out.trans t9 (fun k hk => Or.inr (by simp at hk; rw [hk]; exact T2.out.size)))
          have Q9 := hid (t9.keep Q7.out (by simpa using NB6.out.symm))
          have G9 := hid (G7.out.kept (t9.block gb G7.out.lt (by simpa using NGB.out)))
          have OM9 := hid (OM7.out.kept (t9.block ob OM7.out.lt (by simpa using NOB.out)))
          have s9 := HS.out _ T9.out
          refine hK.out _ _ s9 ?_
          clear hK
          try simp only [Go.Act.put, List.setIfInBounds_toArray, List.set_cons_zero, List.set_cons_succ]
          refine wpAnyH_done (by kernel_rfl) ?_ _
          go_wp2_with fail
          go_meet
          exact ⟨v2.heap.size, gb, ob, rfl, hid ⟨B9.out, T9.out, Q9.out, G9.out, OM9.out, NG.out, NO.out⟩⟩
        exact AllH.nil
      refine AllH.cons (o := { dst := some 9, op := Op.alloc 187, type := 0, pos := _, after := #[], guard := none }) rfl (fun K' hK => ?_) ?_
      · rw [if_pos (by rfl)]
        go_simp
        have B9 := hid (heap_alloc_new v1 (.cells #[.pointer none, .map none, .map none] 187))
        have t9 := (Touch.refl [] v1).alloc (.cells #[.pointer none, .map none, .map none] 187)
        have T9 := hid (T1.out.alloc (.cells #[.pointer none, .map none, .map none] 187))
        have Q9 := hid (Q1.out.keep0 t9)
        have NB9 : Hid (v1.heap.size ≠ r) := hid (by have := T1.out.size; have := HR2.out; omega)
        have G9 := hid (G1.out.kept (t9.block gb G1.out.lt (by simp)))
        have s9 := HS.out _ T9.out
        have NGB : Hid (gb ≠ v1.heap.size) := hid (by have := G1.out.lt; omega)
        refine hK.out _ _ s9 ?_
        clear hK
        try simp only [Go.Act.put, List.setIfInBounds_toArray, List.set_cons_zero, List.set_cons_succ]
        refine wpH_call (i := 6) (o := { dst := some 28, op := Op.call { callee := Callee.value (Operand.func 47), args := #[Operand.tmp 25, Operand.tmp 26, Operand.tmp 27], argTypes := #[106, 23, 2] }, type := 24, pos := _, after := #[{ on := 3, ground := Ground.data }, { on := 4, ground := Ground.data }, { on := 5, ground := Ground.data }, { on := 2, ground := Ground.chain }], guard := none }) (by kernel_rfl) rfl (fun K' hK => ?_)
        rw [if_pos (by rfl)]
        go_simp
        refine (HEn.out _ Q9.out T9.out).mono ?_
        rintro e v10 ⟨u6, rfl, o6, q6, t10⟩
        obtain ⟨a6, c6, e6⟩ := own_form o6
        subst e6
        have T10 := hid (T9.out.trans' t10)
        have O6 := hid o6
        have Q10 := hid q6
        have G10 := hid (G9.out.kept (t10.block gb G9.out.lt (by simpa using NG.out)))
        have B10 := hid (t10.keep B9.out (by simpa using NB9.out))
        clear o6 q6
        have s10 := HS.out _ T10.out
        refine hK.out _ _ s10 ?_
        clear hK
        try simp only [Go.Act.put, List.setIfInBounds_toArray, List.set_cons_zero, List.set_cons_succ]
        refine wpH_call (i := 7) (o := { dst := some 29, op := Op.call { callee := Callee.value (Operand.func 107), args := #[Operand.tmp 28], argTypes := #[24] }, type := 184, pos := _, after := #[{ on := 6, ground := Ground.data }, { on := 6, ground := Ground.chain }], guard := none }) (by kernel_rfl) rfl (fun K' hK => ?_)
        rw [if_pos (by rfl)]
        go_simp
        refine (HBy.out _ _ _ O6.out).mono ?_
        rintro e v11 ⟨ob, rfl, hob, t11, ho11⟩
        have T11 := hid (T10.out.trans' (t11.mono (by simp)))
        have OM11 := hid ho11
        have NO : Hid (ob ≠ r) := hid (by have := T10.out.size; have := HR2.out; omega)
        have Q11 := hid (Q10.out.keep0 t11)
        have G11 := hid (G10.out.kept (t11.block gb G10.out.lt (by simp)))
        have B11 := hid (t11.keep B10.out (by simp))
        have s11 := HS.out _ T11.out
        have NOB : Hid (ob ≠ v1.heap.size) := hid (by have := block_lt B10.out; omega)
        refine hK.out _ _ s11 ?_
        clear hK
        try simp only [Go.Act.put, List.setIfInBounds_toArray, List.set_cons_zero, List.set_cons_succ]
        refine wpH_take (i := 8) (v := (.agg #[.pointer (some ⟨m, 0, none⟩), .map (some gb), .map (some ob)])) (some 30) rfl rfl (by kernel_rfl) (by kernel_rfl) (by kernel_rfl) (fun _ _ _ h => h) (Or.inl ⟨by rfl, fun w' hS => (by go_simp)⟩) s11 ?_
        try simp only [Go.Act.put, List.setIfInBounds_toArray, List.set_cons_zero, List.set_cons_succ]
        refine wpH_call (i := 10) (o := { dst := none, op := Op.store 187 (Operand.tmp 9) (Operand.tmp 30), type := 0, pos := _, after := #[{ on := 9, ground := Ground.data }, { on := 8, ground := Ground.data }, { on := 7, ground := Ground.chain }, { on := 0, ground := Ground.phase }, { on := 1, ground := Ground.phase }, { on := 2, ground := Ground.phase }, { on := 3, ground := Ground.phase }, { on := 4, ground := Ground.phase }, { on := 5, ground := Ground.phase }, { on := 6, ground := Ground.phase }, { on := 7, ground := Ground.phase }, { on := 8, ground := Ground.phase }, { on := 9, ground := Ground.phase }], guard := none }) (by kernel_rfl) rfl (fun K' hK => ?_)
        rw [if_pos (by rfl)]
        have m0 := cell_of (n := 0) B11.out rfl
        have m1 := cell_of (n := 1) B11.out rfl
        have m2 := cell_of (n := 2) B11.out rfl
        have m3 := froz_at B11.out 0
        have m4 := froz_at B11.out 1
        have m5 := froz_at B11.out 2
        go_simp
        clear m0 m1 m2 m3 m4 m5
        have B9 := hid (bset (i := 2) (bset (i := 1) (bset (i := 0) B11.out (.pointer (some ⟨m, 0, none⟩))) (.map (some gb))) (.map (some ob)))
        have t9 := ((((Touch.refl [v1.heap.size] v11).setCell (p := ⟨v1.heap.size, 0, none⟩) (Or.inl (by simp)) (.pointer (some ⟨m, 0, none⟩))).setCell (p := ⟨v1.heap.size, 1, none⟩) (Or.inl (by simp)) (.map (some gb))).setCell (p := ⟨v1.heap.size, 2, none⟩) (Or.inl (by simp)) (.map (some ob)))
        have T9 := hid (T11.out.trans t9 (fun k hk => Or.inr (by simp at hk; rw [hk]; exact T1.out.size)))
        have Q9 := hid (t9.keep Q11.out (by simpa using NB9.out.symm))
        have G9 := hid (G11.out.kept (t9.block gb G11.out.lt (by simpa using NGB.out)))
        have OM9 := hid (OM11.out.kept (t9.block ob OM11.out.lt (by simpa using NOB.out)))
        have s9 := HS.out _ T9.out
        refine hK.out _ _ s9 ?_
        clear hK
        try simp only [Go.Act.put, List.setIfInBounds_toArray, List.set_cons_zero, List.set_cons_succ]
        refine wpAnyH_done (by kernel_rfl) ?_ _
        go_wp2_with fail
        go_meet
        exact ⟨v1.heap.size, gb, ob, rfl, hid ⟨B9.out, T9.out, Q9.out, G9.out, OM9.out, NG.out, NO.out⟩⟩
      exact AllH.nil
    refine AllH.cons (o := { dst := some 9, op := Op.alloc 187, type := 0, pos := _, after := #[], guard := none }) rfl (fun K' hK => ?_) ?_
    · rw [if_pos (by rfl)]
      go_simp
      have B13 := hid (heap_alloc_new Wd (.cells #[.pointer none, .map none, .map none] 187))
      have t13 := (Touch.refl [] Wd).alloc (.cells #[.pointer none, .map none, .map none] 187)
      have T13 := hid (T0.out.alloc (.cells #[.pointer none, .map none, .map none] 187))
      have Q13 := hid (Q0.out.keep0 t13)
      have NB13 : Hid (Wd.heap.size ≠ r) := hid (by have := T0.out.size; have := HR2.out; omega)
      have s13 := HS.out _ T13.out
      refine hK.out _ _ s13 ?_
      clear hK
      try simp only [Go.Act.put, List.setIfInBounds_toArray, List.set_cons_zero, List.set_cons_succ]
      refine wpH_call (i := 2) (o := { dst := some 24, op := Op.call { callee := Callee.value (Operand.func 106), args := #[Operand.tmp 23], argTypes := #[61] }, type := 174, pos := _, after := #[{ on := 1, ground := Ground.data }], guard := none }) (by kernel_rfl) rfl (fun K' hK => ?_)
      rw [if_pos (by rfl)]
      go_simp
      refine (HPl.out _ T13.out).mono ?_
      rintro e v14 ⟨gb, rfl, hgb, t14, hg14⟩
      have T14 := hid (T13.out.trans' (t14.mono (by simp)))
      have G14 := hid hg14
      have NG : Hid (gb ≠ r) := hid (by have := T13.out.size; have := HR2.out; omega)
      have Q14 := hid (Q13.out.keep0 t14)
      have B14 := hid (t14.keep B13.out (by simp))
      have s14 := HS.out _ T14.out
      have NGB : Hid (gb ≠ Wd.heap.size) := hid (by have := block_lt B13.out; omega)
      refine hK.out _ _ s14 ?_
      clear hK
      try simp only [Go.Act.put, List.setIfInBounds_toArray, List.set_cons_zero, List.set_cons_succ]
      refine wpH_call (i := 6) (o := { dst := some 28, op := Op.call { callee := Callee.value (Operand.func 47), args := #[Operand.tmp 25, Operand.tmp 26, Operand.tmp 27], argTypes := #[106, 23, 2] }, type := 24, pos := _, after := #[{ on := 3, ground := Ground.data }, { on := 4, ground := Ground.data }, { on := 5, ground := Ground.data }, { on := 2, ground := Ground.chain }], guard := none }) (by kernel_rfl) rfl (fun K' hK => ?_)
      rw [if_pos (by rfl)]
      go_simp
      refine (HEn.out _ Q14.out T14.out).mono ?_
      rintro e v15 ⟨u6, rfl, o6, q6, t15⟩
      obtain ⟨a6, c6, e6⟩ := own_form o6
      subst e6
      have T15 := hid (T14.out.trans' t15)
      have O6 := hid o6
      have Q15 := hid q6
      have G15 := hid (G14.out.kept (t15.block gb G14.out.lt (by simpa using NG.out)))
      have B15 := hid (t15.keep B14.out (by simpa using NB13.out))
      clear o6 q6
      have s15 := HS.out _ T15.out
      refine hK.out _ _ s15 ?_
      clear hK
      try simp only [Go.Act.put, List.setIfInBounds_toArray, List.set_cons_zero, List.set_cons_succ]
      refine wpH_call (i := 7) (o := { dst := some 29, op := Op.call { callee := Callee.value (Operand.func 107), args := #[Operand.tmp 28], argTypes := #[24] }, type := 184, pos := _, after := #[{ on := 6, ground := Ground.data }, { on := 6, ground := Ground.chain }], guard := none }) (by kernel_rfl) rfl (fun K' hK => ?_)
      rw [if_pos (by rfl)]
      go_simp
      refine (HBy.out _ _ _ O6.out).mono ?_
      rintro e v16 ⟨ob, rfl, hob, t16, ho16⟩
      have T16 := hid (T15.out.trans' (t16.mono (by simp)))
      have OM16 := hid ho16
      have NO : Hid (ob ≠ r) := hid (by have := T15.out.size; have := HR2.out; omega)
      have Q16 := hid (Q15.out.keep0 t16)
      have G16 := hid (G15.out.kept (t16.block gb G15.out.lt (by simp)))
      have B16 := hid (t16.keep B15.out (by simp))
      have s16 := HS.out _ T16.out
      have NOB : Hid (ob ≠ Wd.heap.size) := hid (by have := block_lt B15.out; omega)
      refine hK.out _ _ s16 ?_
      clear hK
      try simp only [Go.Act.put, List.setIfInBounds_toArray, List.set_cons_zero, List.set_cons_succ]
      refine wpH_take (i := 8) (v := (.agg #[.pointer (some ⟨m, 0, none⟩), .map (some gb), .map (some ob)])) (some 30) rfl rfl (by kernel_rfl) (by kernel_rfl) (by kernel_rfl) (fun _ _ _ h => h) (Or.inl ⟨by rfl, fun w' hS => (by go_simp)⟩) s16 ?_
      try simp only [Go.Act.put, List.setIfInBounds_toArray, List.set_cons_zero, List.set_cons_succ]
      refine wpH_call (i := 10) (o := { dst := none, op := Op.store 187 (Operand.tmp 9) (Operand.tmp 30), type := 0, pos := _, after := #[{ on := 9, ground := Ground.data }, { on := 8, ground := Ground.data }, { on := 7, ground := Ground.chain }, { on := 0, ground := Ground.phase }, { on := 1, ground := Ground.phase }, { on := 2, ground := Ground.phase }, { on := 3, ground := Ground.phase }, { on := 4, ground := Ground.phase }, { on := 5, ground := Ground.phase }, { on := 6, ground := Ground.phase }, { on := 7, ground := Ground.phase }, { on := 8, ground := Ground.phase }, { on := 9, ground := Ground.phase }], guard := none }) (by kernel_rfl) rfl (fun K' hK => ?_)
      rw [if_pos (by rfl)]
      have m0 := cell_of (n := 0) B16.out rfl
      have m1 := cell_of (n := 1) B16.out rfl
      have m2 := cell_of (n := 2) B16.out rfl
      have m3 := froz_at B16.out 0
      have m4 := froz_at B16.out 1
      have m5 := froz_at B16.out 2
      go_simp
      clear m0 m1 m2 m3 m4 m5
      have B9 := hid (bset (i := 2) (bset (i := 1) (bset (i := 0) B16.out (.pointer (some ⟨m, 0, none⟩))) (.map (some gb))) (.map (some ob)))
      have t9 := ((((Touch.refl [Wd.heap.size] v16).setCell (p := ⟨Wd.heap.size, 0, none⟩) (Or.inl (by simp)) (.pointer (some ⟨m, 0, none⟩))).setCell (p := ⟨Wd.heap.size, 1, none⟩) (Or.inl (by simp)) (.map (some gb))).setCell (p := ⟨Wd.heap.size, 2, none⟩) (Or.inl (by simp)) (.map (some ob)))
      have T9 := hid (T16.out.trans t9 (fun k hk => Or.inr (by simp at hk; rw [hk]; exact T0.out.size)))
      have Q9 := hid (t9.keep Q16.out (by simpa using NB13.out.symm))
      have G9 := hid (G16.out.kept (t9.block gb G16.out.lt (by simpa using NGB.out)))
      have OM9 := hid (OM16.out.kept (t9.block ob OM16.out.lt (by simpa using NOB.out)))
      have s9 := HS.out _ T9.out
      refine hK.out _ _ s9 ?_
      clear hK
      try simp only [Go.Act.put, List.setIfInBounds_toArray, List.set_cons_zero, List.set_cons_succ]
      refine wpAnyH_done (by kernel_rfl) ?_ _
      go_wp2_with fail
      go_meet
      exact ⟨Wd.heap.size, gb, ob, rfl, hid ⟨B9.out, T9.out, Q9.out, G9.out, OM9.out, NG.out, NO.out⟩⟩
    exact AllH.nil
  case rest =>
    clear C0 Y0 Y1 Y2 Y3 Y4 Y5 Y6 HPl HEn HBy
    obtain ⟨nb, gb, ob, rfl, HC9⟩ := hcut
    obtain ⟨z1, z2, z3, z4, z5, z6, z7⟩ := HC9.out
    have BX := hid z1
    have TX := hid z2
    have QX := hid z3
    have NWX : Hid (∀ w', Touch [r] wc w' → Nw w' m gb ob F c n0 ys G os) := hid (fun w' t => ⟨HM.out w' ((TW1.out.mono (by simp)).trans' ((T2.out.trans' TX.out).trans' t)), z4.kept (t.block gb z4.lt (by simpa using z6)), z5.kept (t.block ob z5.lt (by simpa using z7))⟩)
    have hS := HS.out _ TX.out
    have y3 := cell_of (n := 3) hS.2 rfl
    have nbr : Hid (nb ≠ r) := hid (fun e => by
      rw [e] at z1
      unfold Rq at z3
      rw [z1] at z3
      injection z3 with z3
      injection z3 with _ z3 _
      exact absurd z3 (by decide))
    have BXk : Hid (∀ w', Touch [r] wc w' → w'.heap[nb]? = some (.cells #[.pointer (some ⟨m, 0, none⟩), .map (some gb), .map (some ob)] 187 (0, 0))) := hid (fun w' t => t.keep BX.out (by simpa using nbr.out))
    have u0 := cell_of (n := 0) z1 rfl
    have u1 := cell_of (n := 1) z1 rfl
    have u2 := cell_of (n := 2) z1 rfl
    have KB : Hid (KeyC (.func (.func 108) #[newsV m gb ob] #[]) r s (fun k => (fndN G os ys k).isSome) wc) := hid (keyC_b HS0.out (fun w' t k hk => by
      have := nhas_ (NWX.out w' t) k hk
      rw [getN_ent] at this
      exact this))
    have H7 := hid (keys_r KB QX.out HO6.out.2.2 HS0.out c.e HC.out)
    obtain ⟨y7, hy7⟩ : ∃ y7, y7 = (q7 s x c now ys).1 := ⟨_, rfl⟩
    obtain ⟨ks, hks⟩ : ∃ ks, ks = (q7 s x c now ys).2 := ⟨_, rfl⟩
    have e7 : lstR s y6 c.e (fun k => (fndN G os ys k).isSome) = (y7, ks) := by rw [hy7, hks, Hy6.out, HGq.out, Hos.out]; rfl
    have OK7 : Hid ((∀ k ∈ ks, Ok k) ∧ ks.length ≤ 70000) := hid (by
      have e8 := congrArg Prod.snd e7
      simp only at e8
      rw [← e8]
      refine ⟨keysG_ok _ _ [] (fun e he => by cases he), ?_⟩
      have q1 := keysG_len (s := s) (may := fun k => (fndN G os ys k).isSome) (numR s y6 0 c.e).2.toNat (numR s y6 0 c.e).1 []
      have q2 := numR_v (s := s) (x := y6) (a := 0) (b := c.e) (by omega) HC.out.1
      have q3 := HC.out
      simp at q1
      show (keysG s _ _ _ _).2.length ≤ _
      omega)
    rw [e7] at H7
    have HFin : Hid (q9 s x c now ys = ks.map (entN G os ys) ∧ (q7 s x c now ys).1 = y7) := hid (by
      refine ⟨?_, hy7.symm⟩
      unfold q9
      rw [← hks, ← HGq.out, ← Hos.out])
    clear hy7 hks e7 KB z1 z2 z3 z4 z5 z6 z7 hS HC9
    obtain ⟨n, hnn⟩ : ∃ n, n = ks.length := ⟨_, rfl⟩
    rw [← hnn] at H7
    have HNN := hid hnn
    clear hnn
    unfold newsV PT at H7
    go_wp2_with (go_at_call 104; refine H7.out.mono ?_; rintro e w5 ⟨v5, rfl, o5, qq5, tt5⟩; obtain ⟨a5, c5, e5⟩ := own_form o5; subst e5; have O5 := hid o5; have Q5 := hid qq5; have T5 := hid tt5; clear o5 qq5 tt5)
    clear H7 u0 u1 u2 y3
    go_loopw [10, 38] (fun s10 si wr => ∃ (i : Nat) (b : Option Addr) (cp : Nat), si = .int .i64 i ∧ i ≤ n ∧ s10 = .slice b i cp ∧ Hid (Touch [] w5 wr ∧ wr.ownsRow w5.heap.size 60 7 (.slice b i cp) i (cellsN ((ks.map (entN G os ys)).take i)))) (fun _ si _ => n - (intOf si).toNat)
    case atStart => exact ⟨0, none, 0, rfl, Nat.zero_le _, rfl, hid ⟨Touch.refl _ _, by simp [cellsN], Or.inl ⟨rfl, rfl⟩⟩⟩
    case round =>
      obtain ⟨i, b, cp, rfl, hi, rfl, HI9⟩ := hrel
      obtain ⟨wo, hwo⟩ : ∃ wo, wo = wr := ⟨_, rfl⟩
      rw [← hwo] at HI9 ⊢
      clear hwo wr
      have hnl : n ≤ 70000 := by have := OK7.out.2; have := HNN.out; omega
      by_cases hlt : i < n
      · have hz : (i : Int) < (n : Int) := by omega
        have hix : i < ks.length := by rw [← HNN.out]; exact hlt
        have hrs := Rs.of_own (own_touch O5.out HI9.out.1 (fun _ _ e => by cases e))
        obtain ⟨g2, o2, rfl, k0⟩ := hrs.cell (kcs_at hix).1 (by omega)
        obtain ⟨g3, o3, e3, k1⟩ := hrs.cell (kcs_at hix).2 (by omega)
        cases e3
        rw [← Nat.add_assoc] at k1
        have hok := OK7.out.1 ks[i] (List.getElem_mem hix)
        have HTK := hid (q9_take (G := G) (os := os) (ys := ys) hix)
        generalize ks[i] = kk at *
        obtain ⟨W6, hW6⟩ : ∃ W6, W6 = wo.alloc (.cells #[.int .u16 kk.1, .string kk.2] 54) := ⟨_, rfl⟩
        have tW6 : Touch [] wo W6 := by rw [hW6]; exact (Touch.refl _ _).alloc _
        have hbx : W6.heap[wo.heap.size]? = some (.cells #[.int .u16 kk.1, .string kk.2] 54 (0, 0)) := by rw [hW6]; exact heap_alloc_new wo _
        have t6r : Touch [r] wc W6 := T5.out.trans' ((HI9.out.1.trans' tW6).mono (by simp))
        have hnw := BXk.out W6 t6r
        have HGT := hid (nget_ (NWX.out W6 t6r) kk hok)
        rw [getN_ent] at HGT
        have x0 := cell_of (n := 0) hbx rfl
        have x1 := cell_of (n := 1) hbx rfl
        have u0 := cell_of (n := 0) hnw rfl
        have u1 := cell_of (n := 1) hnw rfl
        have u2 := cell_of (n := 2) hnw rfl
        have HLT := hid (And.intro hi hlt)
        have HNL : Hid (n ≤ 70000) := hid hnl
        have HA : Hid (∀ w7, Touch [] W6 w7 → w7.ownsRow w5.heap.size 60 7 (.slice b i cp) i (cellsN ((ks.map (entN G os ys)).take i)) ∧ w5.heap.size ≤ w7.heap.size ∧ Touch [] w5 w7) := hid (fun w7 t7 => ⟨own_touch HI9.out.2 (tW6.trans' t7) (fun _ _ e => by cases e), (HI9.out.1.trans' (tW6.trans' t7)).size, HI9.out.1.trans' (tW6.trans' t7)⟩)
        have HT2 : Hid (cellsN ((ks.map (entN G os ys)).take (i + 1)) = cellsN ((ks.map (entN G os ys)).take i) ++ nl (entN G os ys kk)) := hid (by rw [HTK.out, cellsN_app, cellsN_one])
        clear hrs hbx tW6 t6r hnw hok HTK hix HI9
        generalize (fndN G os ys kk).isSome = bb at *
        generalize entN G os ys kk = ee at *
        generalize cellsN ((ks.map (entN G os ys)).take i) = vs at *
        unfold newsV kv nv PT at HGT
        go_upto_region 8 with fail
        rw [← hW6]
        clear hW6 k0 k1
        go_upto_region 9 with (go_at_call 109; refine HGT.out.mono ?_; rintro e w7 ⟨rfl, t7⟩; have T7 := hid t7; clear t7 x0 x1 u0 u1 u2)
        obtain ⟨W8, hW8⟩ : ∃ W8, W8 = w7.alloc (.cells #[.int .u16 ee.1.1, .string ee.1.2, .int .i64 ee.2.1.1, .int .i64 ee.2.1.2.1, .int .i64 ee.2.1.2.2.1, .int .i64 ee.2.1.2.2.2, .int .i64 ee.2.2] 60) := ⟨_, rfl⟩
        have T8 : Hid (Touch [] W6 W8) := hid (T7.out.trans' (by rw [hW8]; exact (Touch.refl _ _).alloc _))
        have h9 : W8.heap[w7.heap.size]? = some (.cells #[.int .u16 ee.1.1, .string ee.1.2, .int .i64 ee.2.1.1, .int .i64 ee.2.1.2.1, .int .i64 ee.2.1.2.2.1, .int .i64 ee.2.1.2.2.2, .int .i64 ee.2.2] 60 (0, 0)) := by rw [hW8]; exact heap_alloc_new w7 _
        rw [← hW8]
        clear hW8
        have z0 := cell_of (n := 0) h9 rfl
        have z1 := cell_of (n := 1) h9 rfl
        have z2 := cell_of (n := 2) h9 rfl
        have z3 := cell_of (n := 3) h9 rfl
        have z4 := cell_of (n := 4) h9 rfl
        have z5 := cell_of (n := 5) h9 rfl
        have z6 := cell_of (n := 6) h9 rfl
        clear h9
        go_wp2_with (at_builtin; refine wpList_append_rs rfl _ _ 24 60 rfl _ 7 64 infoAK Tryz.underlying24 rfl (by decide) w5.heap.size (.slice b i cp) i vs rfl (HA.out _ (T8.out.alloc _)).1 (.slice (some ⟨W8.heap.size, 0, none⟩) 1 1) 1 _ rfl (Rs.new W8 #[.int .u16 ee.1.1, .string ee.1.2, .int .i64 ee.2.1.1, .int .i64 ee.2.1.2.1, .int .i64 ee.2.1.2.2.1, .int .i64 ee.2.1.2.2.2, .int .i64 ee.2.2] 60 7 rfl) (by simp [Value.oneCell']) (by unfold maxLen; have := HNL.out; have := HLT.out; omega) (by have := HNL.out; have := HLT.out; omega) (HA.out _ (T8.out.alloc _)).2.1 ?_; intro v6 w6 o6 g6 _; obtain ⟨a6, c6, e6, _⟩ := (Rs.of_own o6).form; subst e6; have O6 := hid o6; have T6 := hid (touch_grown (HA.out _ (T8.out.alloc _)).2.2 g6 (HA.out _ (T8.out.alloc _)).1 (Nat.le_refl _)); clear o6 g6)
        go_roundw
        case rel => exact ⟨i + 1, a6, c6, by go_num, by have := HLT.out; omega, rfl, hid ⟨T6.out, by rw [HT2.out]; exact O6.out⟩⟩
        case measure => simp [intOf]; have := HLT.out; omega
      · have hz : ¬ (i : Int) < (n : Int) := by omega
        have HZ : Hid (wo.ownsRow w.heap.size 60 7 (.slice b i cp) (q9 s x c now ys).length (cellsN (q9 s x c now ys)) ∧ Rq wo r s (q7 s x c now ys).1 ∧ Touch [r] w wo) := hid (by
          have e : i = n := by omega
          have z := HI9.out.2
          rw [List.take_of_length_le (by rw [List.length_map]; have := HNN.out; omega)] at z
          rw [HFin.out.1, HFin.out.2, List.length_map, ← HNN.out, ← e]
          have tt : Touch [r] w wc := (TW1.out.mono (by simp)).trans' (T2.out.trans' TX.out)
          exact ⟨own_base z (Nat.le_trans tt.size T5.out.size), Q5.out.keep0 HI9.out.1, (tt.trans' T5.out).trans' (HI9.out.1.mono (by simp))⟩)
        clear HI9
        go_wp2
        go_ret
        exact ⟨_, rfl, HZ.out⟩
end Go.Proofs.YtpefbmheblfbeaaGreat.Sn
/- The contract of Patch of two memos of one configuration, the old one's time not behind the other's: the patch's bytes; the memos' numbers are of 64 bits. -/
namespace Go.Proofs.YtpefbmheblfbeaaGreat.Sn
open Go.RowKit Go.Sort Go.Shelf Me
set_option linter.unusedVariables false
set_option linter.unusedSimpArgs false
def PaQ (w : World) (c : Cf) (n0 : Int) (ys : List En) (now : Int) (xs : List En) (e : Ending) (w' : World) : Prop := ∃ gs, gs.Perm (gonL ys xs) ∧ gs.Pairwise So.leK ∧ e = .returned (.tuple #[.string (patS c n0 ys now xs gs), .int .i64 0]) ∧ Touch [] w w'
theorem gon_key {c : Cf} {n0 : Int} {ys xs : List En} {gs : List K} (hk : MmOk c n0 ys) (hp : gs.Perm (gonL ys xs)) : (∀ k ∈ gs, 0 ≤ k.1 ∧ k.1 ≤ 65535 ∧ k.2.size ≤ 64) ∧ gs.length ≤ 65536 := by
  constructor
  · intro k hm
    have h1 := hp.mem_iff.1 hm
    unfold gonL at h1
    have h2 := (List.mem_filter.1 h1).1
    obtain ⟨x, hx, rfl⟩ := List.mem_map.1 h2
    have := hk.x x hx
    exact ⟨this.s0, this.s1, this.nm⟩
  · have e := hp.length_eq
    have e2 : (gonL ys xs).length ≤ (keysL ys).length := by unfold gonL; exact List.length_filter_le _ _
    have e3 : (keysL ys).length = ys.length := by simp [keysL]
    have := hk.l
    omega
theorem keysB_len {ks : List K} (h : ∀ k ∈ ks, 0 ≤ k.1 ∧ k.1 ≤ 65535 ∧ k.2.size ≤ 64) (hl : ks.length ≤ 65536) : (keysB ks).length ≤ 5000000 := by
  have q1 := nB_len (n := (ks.length : Int)) (by omega)
  have q2 := keys_le ks (fun k hk => (h k hk).2.2)
  unfold keysB
  rw [List.length_append]
  omega
theorem entsB_len {xs : List En} (h : ∀ x ∈ xs, EnOk x) (hl : xs.length ≤ 65536) : (entsB xs).length ≤ 7000000 := by
  have q1 := nB_len (n := (xs.length : Int)) (by omega)
  have q2 := flat_le h
  unfold entsB
  rw [List.length_append]
  omega
set_option maxHeartbeats 4000000 in
theorem patch_ {w : World} {m0 m : Nat} {F0 F : List Nat} {c : Cf} {n0 now : Int} {ys xs : List En} (h0 : Mq w m0 F0 c n0 ys) (h : Mq w m F c now xs) (k0 : MmOk c n0 ys) (hk : MmOk c now xs) (hn : n0 ≤ now) : Calls Tryz.prog 15 #[PT m0, PT m] w fun e w' => PaQ w c n0 ys now xs e w' := by
  have HM0 := hid (fun w' (t : Touch [] w w') => h0.keep0 t)
  have HM1 := hid (fun w' (t : Touch [] w w') => h.keep0 t)
  have HC0 := hid (fun w' (t : Touch [] w w') => (by obtain ⟨b, o, G, _, hb⟩ := HM0.out w' t; exact config27 w' m0 c n0 b o hb.md : Calls Tryz.prog 35 #[PT m0] w' fun e w'' => e = .returned (cv c) ∧ Touch [] w' w''))
  have HC1 := hid (fun w' (t : Touch [] w w') => (by obtain ⟨b, o, G, _, hb⟩ := HM1.out w' t; exact config27 w' m c now b o hb.md : Calls Tryz.prog 35 #[PT m] w' fun e w'' => e = .returned (cv c) ∧ Touch [] w' w''))
  have HN0 := hid (fun w' (t : Touch [] w w') => (by obtain ⟨b, o, G, _, hb⟩ := HM0.out w' t; exact now26 w' m0 c n0 b o hb.md : Calls Tryz.prog 22 #[PT m0] w' fun e w'' => e = .returned (.int .i64 n0) ∧ w'' = w'))
  have HN1 := hid (fun w' (t : Touch [] w w') => (by obtain ⟨b, o, G, _, hb⟩ := HM1.out w' t; exact now26 w' m c now b o hb.md : Calls Tryz.prog 22 #[PT m] w' fun e w'' => e = .returned (.int .i64 now) ∧ w'' = w'))
  have hz : ¬ now < n0 := by omega
  have HK0 := hid k0
  have HK1 := hid hk
  have HT0 := hid (Touch.refl [] w)
  have HXO : Hid ((∀ x ∈ othL ys xs, EnOk x) ∧ (othL ys xs).length ≤ 65536) := hid ⟨fun x hx => hk.x x (List.mem_filter.1 hx).1, Nat.le_trans (othL_len ys xs) hk.l⟩
  have HXK : Hid ((∀ k ∈ keysL xs, 0 ≤ k.1 ∧ k.1 ≤ 65535 ∧ k.2.size ≤ 64) ∧ (keysL xs).length ≤ 65536) := hid ⟨fun k hm => by
    obtain ⟨x, hx, rfl⟩ := List.mem_map.1 hm
    have := hk.x x hx
    exact ⟨this.s0, this.s1, this.nm⟩, by rw [keysL_len]; exact hk.l⟩
  clear h h0 k0 hk hn
  unfold cv at HC0 HC1
  unfold PT at *
  go_enter Tryz.func15, Tryz.ntmps15
  go_upto_region 3 with fail
  go_upto_region 5 with (first
    | (go_at_call_of 35 (#[.pointer (some ⟨m0, 0, none⟩)] : Array Value); refine (HC0.out _ HT0.out).mono ?_; rintro e w1 ⟨rfl, t1⟩; have T1 := hid (HT0.out.trans' t1); clear t1)
    | (go_at_call_of 35 (#[.pointer (some ⟨m, 0, none⟩)] : Array Value); refine (HC1.out _ T1.out).mono ?_; rintro e w2 ⟨rfl, t2⟩; have T2 := hid (T1.out.trans' t2); clear t2)
    | (go_at_call_of 22 (#[.pointer (some ⟨m, 0, none⟩)] : Array Value); refine (HN1.out _ T2.out).mono ?_; rintro e w3 ⟨rfl, e3⟩; rw [e3]; clear e3 w3)
    | (go_at_call_of 22 (#[.pointer (some ⟨m0, 0, none⟩)] : Array Value); refine (HN0.out _ T2.out).mono ?_; rintro e w4 ⟨rfl, e4⟩; rw [e4]; clear e4 w4))
  obtain ⟨V, hV⟩ : ∃ V, V = w2.alloc (.cells #[.pointer none, .slice none 0 0] 93) := ⟨_, rfl⟩
  have tV : Touch [] w2 V := by rw [hV]; exact (Touch.refl _ _).alloc _
  have b0 : Bd w2.heap.size w2.heap.size [] V := by rw [hV]; exact Bd.new w2
  have HT := hid (fun w' (hw : Wr w2.heap.size w2.heap.size V w') => T2.out.trans' (hw.tou tV))
  have HB := hid tV.size
  have H1 := hid (write_ b0 ⟨#[99, 111, 110, 118, 111, 121, 112, 49]⟩ (by decide))
  generalize hsz : w2.heap.size = n at *
  have HW : Hid (∀ w' l z, Bd n n l w' → l.length ≤ 100 → Calls Tryz.prog 33 #[.pointer (some ⟨n, 0, none⟩), .string ⟨(by8 z).toArray⟩] w' fun e w'' => e = .returned (.tuple #[.int .i64 ((⟨(by8 z).toArray⟩ : ByteArray).size : Nat), .nilIface]) ∧ Bd n n (l ++ by8 z) w'' ∧ Wr n n w' w'') := hid (fun w' l z h' hl => write_ h' ⟨(by8 z).toArray⟩ (by have := by8_len z; show l.length + (by8 z).toArray.size ≤ _; rw [List.size_toArray]; omega))
  have HS0 := hid (fun w' (hw : Wr n n V w') => (sumOfMemo_ (HM0.out _ (HT.out _ hw)) HK0.out : Calls Tryz.prog 56 #[.pointer (some ⟨m0, 0, none⟩)] w' _))
  have HS1 := hid (fun w' (hw : Wr n n V w') => (sumOfMemo_ (HM1.out _ (HT.out _ hw)) HK1.out : Calls Tryz.prog 56 #[.pointer (some ⟨m, 0, none⟩)] w' _))
  have HSB := hid (fun w' => sumBytes_ w' (smM c n0 ys) (smM_lt _ _ _))
  have HSB1 := hid (fun w' => sumBytes_ w' (smM c now xs) (smM_lt _ _ _))
  obtain ⟨z0, hz0⟩ : ∃ z0, z0 = smM c n0 ys := ⟨_, rfl⟩
  obtain ⟨z1, hz1⟩ : ∃ z1, z1 = smM c now xs := ⟨_, rfl⟩
  rw [← hz0] at HS0 HSB
  rw [← hz1] at HS1 HSB1
  have HZ := hid (And.intro hz0 hz1)
  clear hz0 hz1
  have l2 := nB_len (n := now) (by have := HK1.out.n.2; omega)
  have HL2 := hid l2
  have HN2 := hid (fun w' (hw : Wr n n V w') => HN1.out w' (HT.out _ hw))
  have H5 := hid (fun w' (h' : Bd n n (mk2 ++ by8 z0 ++ by8 z1) w') => (tellNumber_ h' now HK1.out.n.1 HK1.out.n.2 (by rw [List.length_append, List.length_append, by8_len, by8_len]; show 8 + 8 + 8 ≤ _; omega) : Calls Tryz.prog 36 #[.pointer (some ⟨n, 0, none⟩), .int .i64 now] w' _))
  have HGO := hid (fun w' (hw : Wr n n V w') => (gone_ (HM0.out _ (HT.out _ hw)) (HM1.out _ (HT.out _ hw)) : Calls Tryz.prog 58 #[.pointer (some ⟨m0, 0, none⟩), .pointer (some ⟨m, 0, none⟩)] w' _))
  have H6 := hid (fun w' (gs : List K) a cp (hg : gs.Perm (gonL ys xs)) (h' : Bd n n (mk2 ++ by8 z0 ++ by8 z1 ++ nB now) w') (hv : RK2 w' a gs) => (tellKeys_ h' gs a cp hv (gon_key HK0.out hg).1 (by simp only [List.length_append, by8_len]; show 8 + _ + _ + _ ≤ _; have := HL2.out; omega) (by have := (gon_key HK0.out hg).2; omega) : Calls Tryz.prog 57 #[.pointer (some ⟨n, 0, none⟩), .slice a gs.length cp] w' _))
  have HOT := hid (fun w' (hw : Wr n n V w') => (others_ (HM0.out _ (HT.out _ hw)) (HM1.out _ (HT.out _ hw)) : Calls Tryz.prog 59 #[.pointer (some ⟨m0, 0, none⟩), .pointer (some ⟨m, 0, none⟩)] w' _))
  have H7 := hid (fun w' (gs : List K) v (hg : gs.Perm (gonL ys xs)) (h' : Bd n n (mk2 ++ by8 z0 ++ by8 z1 ++ nB now ++ keysB gs) w') (hv : RN 60 w' v (othL ys xs)) => (tellEntries_ h' (othL ys xs) v hv HXO.out.1 (by have q := keysB_len (gon_key HK0.out hg).1 (gon_key HK0.out hg).2; simp only [List.length_append, by8_len]; show 8 + _ + _ + _ + _ ≤ _; have := HL2.out; omega) (by have := HXO.out.2; omega) : Calls Tryz.prog 37 #[.pointer (some ⟨n, 0, none⟩), v] w' _))
  have HKO := hid (fun w' (hw : Wr n n V w') => (pkeysOf_ (HM1.out _ (HT.out _ hw)) : Calls Tryz.prog 60 #[.pointer (some ⟨m, 0, none⟩)] w' _))
  have H8 := hid (fun w' (gs : List K) a cp (hg : gs.Perm (gonL ys xs)) (h' : Bd n n (mk2 ++ by8 z0 ++ by8 z1 ++ nB now ++ keysB gs ++ entsB (othL ys xs)) w') (hv : RK2 w' a (keysL xs)) => (tellKeys_ h' (keysL xs) a cp hv HXK.out.1 (by have q := keysB_len (gon_key HK0.out hg).1 (gon_key HK0.out hg).2; have q2 := entsB_len HXO.out.1 HXO.out.2; simp only [List.length_append, by8_len]; show 8 + _ + _ + _ + _ + _ ≤ _; have := HL2.out; omega) (by have := HXK.out.2; omega) : Calls Tryz.prog 57 #[.pointer (some ⟨n, 0, none⟩), .slice a (keysL xs).length cp] w' _))
  have HE : Hid (∀ gs, mk2 ++ by8 z0 ++ by8 z1 ++ nB now ++ keysB gs ++ entsB (othL ys xs) ++ keysB (keysL xs) = bodyQ c n0 ys now xs gs) := hid (fun gs => by unfold bodyQ; rw [← HZ.out.1, ← HZ.out.2]; simp only [List.append_assoc])
  have H9 := hid (fun w' gs (h' : Bd n n (bodyQ c n0 ys now xs gs) w') => (string_ h' (by unfold bodyQ mk2; simp) : Calls Tryz.prog 40 #[.pointer (some ⟨n, 0, none⟩)] w' _))
  have H10 := hid (fun w' gs (hg : gs.Perm (gonL ys xs)) => sealed_ w' ⟨(bodyQ c n0 ys now xs gs).toArray⟩ (by
    have q := keysB_len (gon_key HK0.out hg).1 (gon_key HK0.out hg).2
    have q2 := entsB_len HXO.out.1 HXO.out.2
    have q3 := keysB_len HXK.out.1 HXK.out.2
    show (bodyQ c n0 ys now xs gs).toArray.size ≤ _
    rw [List.size_toArray]
    unfold bodyQ
    simp only [List.length_append, by8_len]
    have := HL2.out
    show 8 + _ ≤ _
    omega))
  have s0 := Wr.refl n n V
  unfold PT at *
  clear l2 tV HC0 HC1 HN0 HN1
  go_upto_region 6 with fail
  rw [← hV]
  clear hV hsz
  go_upto_region 7 with (go_at_call 33; refine H1.out.mono ?_; rintro e w3 ⟨rfl, b1, s1⟩; clear s0 H1 b0)
  have b1' : Bd n n mk2 w3 := b1
  clear b1
  go_upto_region 8 with (first
    | (go_at_call 56; refine (HS0.out _ s1).mono ?_; rintro e w4 ⟨rfl, t4⟩; have s4 := s1.touch t4 HB.out; have b4 := b1'.touch t4; clear t4)
    | (go_at_call 55; refine (HSB.out _).mono ?_; rintro e w5 ⟨rfl, t5⟩; have s5 := s4.touch t5 HB.out; have b5 := b4.touch t5; clear t5)
    | (go_at_call 33; refine (HW.out _ _ _ b5 (by decide)).mono ?_; rintro e w6 ⟨rfl, b6, q6⟩; have s6 := s5.trans q6; clear q6 s1 s4 s5 b1' b4 b5))
  go_upto_region 9 with (first
    | (go_at_call 56; refine (HS1.out _ s6).mono ?_; rintro e w7 ⟨rfl, t7⟩; have s7 := s6.touch t7 HB.out; have b7 := b6.touch t7; clear t7)
    | (go_at_call 55; refine (HSB1.out _).mono ?_; rintro e w8 ⟨rfl, t8⟩; have s8 := s7.touch t8 HB.out; have b8 := b7.touch t8; clear t8)
    | (go_at_call 33; refine (HW.out _ _ _ b8 (by rw [List.length_append, by8_len]; decide)).mono ?_; rintro e w9 ⟨rfl, b9, q9⟩; have s9 := s8.trans q9; clear q9 s6 s7 s8 b6 b7 b8))
  go_upto_region 10 with (first
    | (go_at_call 22; refine (HN2.out _ s9).mono ?_; rintro e w10 ⟨rfl, e10⟩; rw [e10]; clear e10 w10)
    | (go_at_call 36; refine (H5.out _ b9).mono ?_; rintro e w11 ⟨rfl, b11, q11⟩; have s11 := s9.trans q11; clear q11 s9 b9))
  go_upto_region 11 with (first
    | (go_at_call 58; refine (HGO.out _ s11).mono ?_; rintro e w12 ⟨v12, gs, rfl, hg, hgs, o12, t12⟩; have HG := hid hg; have HGS := hid hgs; have o12' : w12.ownsRow w11.heap.size 54 2 v12 gs.length (kcs gs) := o12; obtain ⟨a12, c12, e12⟩ := own_form o12'; subst e12; have R12 := hid (rk2_own o12'); have s12 := s11.touch t12 HB.out; have b12 := b11.touch t12; clear o12 o12' t12 s11 b11 hg hgs)
    | (go_at_call 57; refine (H6.out _ gs _ _ HG.out b12 R12.out).mono ?_; rintro e w13 ⟨rfl, b13, q13⟩; have s13 := s12.trans q13; clear q13 s12 b12 R12))
  go_upto_region 12 with (first
    | (go_at_call 59; refine (HOT.out _ s13).mono ?_; rintro e w14 ⟨v14, rfl, o14, t14⟩; have R14 := hid (RN.own o14); have s14 := s13.touch t14 HB.out; have b14 := b13.touch t14; obtain ⟨a14, c14, e14⟩ := own_form o14; subst e14; clear o14 t14 s13 b13)
    | (go_at_call 37; refine (H7.out _ gs _ HG.out b14 R14.out).mono ?_; rintro e w15 ⟨rfl, b15, q15⟩; have s15 := s14.trans q15; clear q15 s14 b14 R14))
  go_upto_region 13 with (first
    | (go_at_call 60; refine (HKO.out _ s15).mono ?_; rintro e w16 ⟨v16, rfl, o16, t16⟩; have s16 := s15.touch t16 HB.out; have b16 := b15.touch t16; obtain ⟨a16, c16, e16⟩ := own_form o16; subst e16; have R16 := hid (rk2_own o16); clear o16 t16 s15 b15)
    | (go_at_call 57; refine (H8.out _ gs _ _ HG.out b16 R16.out).mono ?_; rintro e w17 ⟨rfl, b17, q17⟩; have s17 := s16.trans q17; rw [HE.out] at b17; clear q17 s16 b16 R16))
  go_wp2_with (first
    | (go_at_call 40; refine (H9.out _ gs b17).mono ?_; rintro e w18 ⟨rfl, q18⟩; have s18 := s17.trans q18; clear q18 s17 b17)
    | (go_at_call 39; refine (H10.out _ gs HG.out).mono ?_; rintro e w19 ⟨rfl, t19⟩; have T19 := hid t19; clear t19))
  go_ret2
  exact ⟨gs, HG.out, HGS.out, rfl, (HT.out _ s18).trans' T19.out⟩
end Go.Proofs.YtpefbmheblfbeaaGreat.Sn
/- The contract of Apply: what comes of an old memo by any bytes, with the place of what is wrong; the text's length is a number of the language's, the old memo's numbers are of 64 bits, and those of what is read, if a memo may be made of it. -/
namespace Go.Proofs.YtpefbmheblfbeaaGreat.Sn
open Go.RowKit Go.Sort Go.Shelf Me
set_option linter.unusedVariables false
set_option linter.unusedSimpArgs false
theorem CfOk.wc {c : Cf} (h : CfOk c) : Wc c := ⟨w64' h.t.1 h.t.2, w64' h.n.1 h.n.2, w64' h.s.1 h.s.2, w64' h.e.1 h.e.2, w64' h.f.1 h.f.2, w64' h.b.1 h.b.2, w64' h.d.1 h.d.2⟩
theorem entN_ok (G : List K) (os ys : List En) {k : K} (hk : Ok k) : Ok (entN G os ys k).1 := by
  unfold entN
  split
  · exact hk
  · exact ⟨by decide, by decide⟩
def smO (c : Cf) (now : Int) (L : List En) : Nat := if (ofP c now L).2 = 0 then smM c now L else 0
def ApQ (w : World) (c : Cf) (n0 : Int) (ys : List En) (s : ByteArray) (e : Ending) (w' : World) : Prop :=
  ((pt8 s c n0 ys).er ≠ 0 ∧ e = .returned (.tuple #[.pointer none, .int .i64 (pt8 s c n0 ys).at_, .int .i64 (pt8 s c n0 ys).er]) ∧ Touch [] w w') ∨
  ((pt8 s c n0 ys).er = 0 ∧ (pt2 s).2 ≠ smM c n0 ys ∧ e = .returned (.tuple #[.pointer none, .int .i64 8, .int .i64 202]) ∧ Touch [] w w') ∨
  ((pt8 s c n0 ys).er = 0 ∧ (pt2 s).2 = smM c n0 ys ∧ (pt3 s).2 ≠ smO c (pt4 s n0).2 (pt9 s c n0 ys) ∧ e = .returned (.tuple #[.pointer none, .int .i64 16, .int .i64 202]) ∧ Touch [] w w') ∨
  ((pt8 s c n0 ys).er = 0 ∧ (pt2 s).2 = smM c n0 ys ∧ (pt3 s).2 = smO c (pt4 s n0).2 (pt9 s c n0 ys) ∧ ∃ pm w9 w10, e = .returned (.tuple #[pm, .int .i64 (ofP c (pt4 s n0).2 (pt9 s c n0 ys)).1, .int .i64 (ofP c (pt4 s n0).2 (pt9 s c n0 ys)).2]) ∧ Touch [] w w9 ∧ OfA w9 c (pt4 s n0).2 (pt9 s c n0 ys) pm w10 ∧ Touch [] w10 w')
theorem Rin.sum {s : ByteArray} {x : Rd} (h : Rin s x) : Rin s (sumR s x).1 := by
  unfold sumR
  exact h.pass (fun e => by have := of_decide_eq_true e; have := h.1; omega)
set_option maxRecDepth 20000 in
set_option maxHeartbeats 4000000 in
theorem apply_ {w : World} {m0 : Nat} {F0 : List Nat} {c : Cf} {n0 : Int} {ys : List En} {s : ByteArray} (h0 : Mq w m0 F0 c n0 ys) (k0 : MmOk c n0 ys) (hs : s.size ≤ 140737488351232) (hmm : (ofP c (pt4 s n0).2 (pt9 s c n0 ys)).2 = 0 → MmOk c (pt4 s n0).2 (pt9 s c n0 ys)) : Calls Tryz.prog 17 #[PT m0, .string s] w fun e w' => ApQ w c n0 ys s e w' := by
  have HM0 := hid (fun w' (t : Touch [] w w') => h0.keep0 t)
  have hnT := h0.gd.n0
  have hnM := h0.gd.n1
  obtain ⟨V, hV⟩ : ∃ V, V = w.alloc (.cells #[.string s, .int .i64 0, .int .i64 0] 108) := ⟨_, rfl⟩
  obtain ⟨r, hr⟩ : ∃ r, r = w.heap.size := ⟨_, rfl⟩
  have TV : Touch [] w V := by rw [hV]; exact (Touch.refl _ _).alloc _
  have q0 : Rq V r s ⟨0, 0⟩ := by rw [hV, hr]; exact heap_alloc_new w _
  have i0 : Rin s ⟨0, 0⟩ := ⟨Int.le_refl _, by show (0 : Int) ≤ s.size; omega⟩
  have i1 : Rin s (pt1 s) := i0.mark mk2
  have i2 : Rin s (pt2 s).1 := i1.sum
  have i3 : Rin s (pt3 s).1 := i2.sum
  have i4 : Rin s (pt4 s n0).1 := i3.num _ _
  have i7 : Rin s (pt7 s c n0 ys).1 := Rin.keysG _ _ ((Rin.ents _ _ ((Rin.keysG _ _ (i4.num _ _)).num _ _)).num _ _)
  have HTV := hid TV
  have HQ : Hid (∀ w', Touch [r] V w' → Touch [] w w') := hid (fun w' t => HTV.out.trans t (fun k hk => by simp at hk; rw [hk, hr]; exact Or.inr (Nat.le_refl _)))
  have H1 : Hid (Calls Tryz.prog 44 #[PT r, .string ⟨#[99, 111, 110, 118, 111, 121, 112, 49]⟩] V fun e w' => e = .returned (.tuple #[]) ∧ Rq w' r s (pt1 s) ∧ Touch [r] V w') := hid (mark_r q0 i0 hs ⟨#[99, 111, 110, 118, 111, 121, 112, 49]⟩ (by decide))
  have H2 : Hid (∀ w', Rq w' r s (pt1 s) → Calls Tryz.prog 65 #[PT r] w' fun e w'' => e = .returned (.int .u64 ((pt2 s).2 : Nat)) ∧ Rq w'' r s (pt2 s).1 ∧ Touch [r] w' w'') := hid (fun w' q => sum_r q i1 hs)
  have H3 : Hid (∀ w', Rq w' r s (pt2 s).1 → Calls Tryz.prog 65 #[PT r] w' fun e w'' => e = .returned (.int .u64 ((pt3 s).2 : Nat)) ∧ Rq w'' r s (pt3 s).1 ∧ Touch [r] w' w'') := hid (fun w' q => sum_r q i2 hs)
  have HN0 := hid (fun w' (t : Touch [] w w') => (by obtain ⟨b, o, G, _, hb⟩ := HM0.out w' t; exact now26 w' m0 c n0 b o hb.md : Calls Tryz.prog 22 #[PT m0] w' fun e w'' => e = .returned (.int .i64 n0) ∧ w'' = w'))
  have HC0 := hid (fun w' (t : Touch [] w w') => (by obtain ⟨b, o, G, _, hb⟩ := HM0.out w' t; exact config27 w' m0 c n0 b o hb.md : Calls Tryz.prog 35 #[PT m0] w' fun e w'' => e = .returned (cv c) ∧ Touch [] w' w''))
  have H4 : Hid (∀ w', Rq w' r s (pt3 s).1 → Calls Tryz.prog 46 #[PT r, .int .i64 n0, .int .i64 4611686018427387904] w' fun e w'' => e = .returned (.int .i64 (pt4 s n0).2) ∧ Rq w'' r s (pt4 s n0).1 ∧ Touch [r] w' w'') := hid (fun w' q => number_r q i3 hs n0 4611686018427387904 hnT (by unfold MT at hnM; omega) (by omega) (by omega))
  have v4 := numR_v (s := s) (x := (pt3 s).1) (a := n0) (b := 4611686018427387904) hnT (by omega)
  have HV4 : Hid (0 ≤ (pt4 s n0).2 ∧ (pt4 s n0).2 ≤ 9223372036854775807) := hid ⟨v4.1, by have := v4.2; show (numR s (pt3 s).1 n0 4611686018427387904).2 ≤ _; omega⟩
  have H7 : Hid (∀ w', Touch [] w w' → Rq w' r s (pt4 s n0).1 → Calls Tryz.prog 66 #[PT r, PT m0, .int .i64 (pt4 s n0).2] w' fun e w'' => ∃ v, e = .returned v ∧ w''.ownsRow w'.heap.size 60 7 v (pt9 s c n0 ys).length (cellsN (pt9 s c n0 ys)) ∧ Rq w'' r s (pt7 s c n0 ys).1 ∧ Touch [r] w' w'') := hid (fun w' t q => patched_ (HM0.out w' t) q i4 hs HV4.out)
  have H8 : Hid (∀ w', Rq w' r s (pt7 s c n0 ys).1 → Calls Tryz.prog 48 #[PT r] w' fun e w'' => e = .returned (.tuple #[]) ∧ Rq w'' r s (pt8 s c n0 ys) ∧ Touch [r] w' w'') := hid (fun w' q => end_r q i7 hs)
  have HS0 := hid (fun w' (t : Touch [] w w') => sumOfMemo_ (HM0.out w' t) k0)
  have hok : (∀ z ∈ pt9 s c n0 ys, Ok z.1) ∧ ((pt9 s c n0 ys).length : Int) ≤ 9223372036854775807 := by
    have q1 := keysG_len (s := s) (may := fun k => (fndN (pt5 s c n0 ys).2 (pt6 s c n0 ys).2 ys k).isSome) (numR s (pt6 s c n0 ys).1 0 c.e).2.toNat (numR s (pt6 s c n0 ys).1 0 c.e).1 []
    have hce := okC_e h0.gd.oc
    have q2 := numR_v (s := s) (x := (pt6 s c n0 ys).1) (a := 0) (b := c.e) (by omega) hce.1
    constructor
    · intro z hz
      unfold pt9 at hz
      obtain ⟨k, hk, rfl⟩ := List.mem_map.1 hz
      exact entN_ok _ _ _ (keysG_ok _ _ [] (fun e he => by cases he) k hk)
    · unfold pt9
      rw [List.length_map]
      simp at q1
      show ((keysG s _ _ _ _).2.length : Int) ≤ _
      omega
  have H9 := hid (fun w' v (hv : RN 60 w' v (pt9 s c n0 ys)) => of15 w' c (pt4 s n0).2 (pt9 s c n0 ys) v k0.c.wc hok.2 hv hok.1)
  have HSM : Hid (∀ w' m F, Mq w' m F c (pt4 s n0).2 (pt9 s c n0 ys) → (ofP c (pt4 s n0).2 (pt9 s c n0 ys)).2 = 0 → Calls Tryz.prog 56 #[PT m] w' fun e w'' => e = .returned (.int .u64 ((smO c (pt4 s n0).2 (pt9 s c n0 ys) : Nat) : Int)) ∧ Touch [] w' w'') := hid (fun w' m F hm he => by
    have := sumOfMemo_ hm (hmm he)
    unfold smO
    rw [if_pos he]
    exact this)
  have HSN : Hid ((ofP c (pt4 s n0).2 (pt9 s c n0 ys)).2 ≠ 0 → smO c (pt4 s n0).2 (pt9 s c n0 ys) = 0) := hid (fun he => by unfold smO; rw [if_neg he])
  have HAP : Hid (∀ e w', ((pt8 s c n0 ys).er ≠ 0 ∧ e = .returned (.tuple #[.pointer none, .int .i64 (pt8 s c n0 ys).at_, .int .i64 (pt8 s c n0 ys).er]) ∧ Touch [] w w') ∨
      ((pt8 s c n0 ys).er = 0 ∧ (pt2 s).2 ≠ smM c n0 ys ∧ e = .returned (.tuple #[.pointer none, .int .i64 8, .int .i64 202]) ∧ Touch [] w w') ∨
      ((pt8 s c n0 ys).er = 0 ∧ (pt2 s).2 = smM c n0 ys ∧ (pt3 s).2 ≠ smO c (pt4 s n0).2 (pt9 s c n0 ys) ∧ e = .returned (.tuple #[.pointer none, .int .i64 16, .int .i64 202]) ∧ Touch [] w w') ∨
      ((pt8 s c n0 ys).er = 0 ∧ (pt2 s).2 = smM c n0 ys ∧ (pt3 s).2 = smO c (pt4 s n0).2 (pt9 s c n0 ys) ∧ ∃ pm w9 w10, e = .returned (.tuple #[pm, .int .i64 (ofP c (pt4 s n0).2 (pt9 s c n0 ys)).1, .int .i64 (ofP c (pt4 s n0).2 (pt9 s c n0 ys)).2]) ∧ Touch [] w w9 ∧ OfA w9 c (pt4 s n0).2 (pt9 s c n0 ys) pm w10 ∧ Touch [] w10 w') → ApQ w c n0 ys s e w') := hid (fun e w' h => h)
  generalize ApQ w c n0 ys s = AP at *
  clear i0 i1 i2 i3 i4 i7 v4 TV hs hok hnT hnM h0 hmm
  generalize (pt2 s).1 = x2 at *
  generalize (pt3 s).1 = x3 at *
  generalize (pt4 s n0).1 = x4 at *
  generalize (pt7 s c n0 ys).1 = x7 at *
  generalize pt8 s c n0 ys = x8 at *
  generalize smO c (pt4 s n0).2 (pt9 s c n0 ys) = sO at *
  generalize (ofP c (pt4 s n0).2 (pt9 s c n0 ys)).1 = oa at *
  generalize hoe : (ofP c (pt4 s n0).2 (pt9 s c n0 ys)).2 = oe at *
  generalize smM c n0 ys = sM at *
  generalize pt9 s c n0 ys = LL at *
  generalize (pt4 s n0).2 = NW at *
  generalize pt1 s = x1 at *
  generalize (pt2 s).2 = g0 at *
  generalize (pt3 s).2 = g1 at *
  have HOE := hid hoe
  clear hoe
  unfold PT cv at *
  go_enter Tryz.func17, Tryz.ntmps17
  go_upto_region 4 with fail
  rw [← hV]
  try rw [← hr]
  have HR := hid hr
  clear hV hr
  go_upto_region 5 with (go_at_call 44; refine H1.out.mono ?_; rintro e w1 ⟨rfl, q1, t1⟩; have T1 := hid t1; clear t1 H1)
  go_upto_region 6 with (first
    | (go_at_call 65; refine (H2.out _ q1).mono ?_; rintro e w2 ⟨rfl, q2, t2⟩; have T2 := hid (T1.out.trans' t2); clear q1 t2 H2)
    | (go_at_call 65; refine (H3.out _ q2).mono ?_; rintro e w3 ⟨rfl, q3, t3⟩; have T3 := hid (T2.out.trans' t3); clear q2 t3 H3))
  go_upto_region 7 with (first
    | (go_at_call 22; refine (HN0.out _ (HQ.out _ T3.out)).mono ?_; rintro e w9 ⟨rfl, e9⟩; rw [e9]; clear e9 w9)
    | (go_at_call 46; refine (H4.out _ q3).mono ?_; rintro e w4 ⟨rfl, q4, t4⟩; have T4 := hid (T3.out.trans' t4); clear q3 t4 H4))
  go_upto_region 8 with (go_at_call 66; refine (H7.out _ (HQ.out _ T4.out) q4).mono ?_; rintro e w7 ⟨v7, rfl, o7, q7, t7⟩; have T7 := hid (T4.out.trans' t7); obtain ⟨a7, c7, e7⟩ := own_form o7; subst e7; have HRL := hid q4.lt; have O7 := hid o7; clear q4 t7 o7 H7)
  go_upto_region 9 with (go_at_call 48; refine (H8.out _ q7).mono ?_; rintro e w8 ⟨rfl, q8, t8⟩; have T8 := hid (HQ.out _ (T7.out.trans' t8)); have O8 := hid (own_touch O7.out t8 (fun b hb e => by have h1 := (O7.out.lt b hb).1; have h2 := HRL.out; simp at e; omega)); clear q7 t8 O7 H8)
  have cE := cell_of (n := 2) q8 rfl
  by_cases he : x8.er = 0
  · rw [he] at cE
    have HE := hid he
    by_cases hg : g0 = sM
    · have HG := hid hg
      have hb : ((g0 : Int) != (sM : Int)) = false := by rw [hg]; simp
      have R8 := hid (fun w' (t : Touch [] w8 w') => RN.own (own_touch O8.out t (fun _ _ e => by cases e)))
      clear he hg
      go_upto_region 14 with (first
        | (go_at_call 56; refine (HS0.out _ T8.out).mono ?_; rintro e w9 ⟨rfl, t9⟩; have T9 := hid t9; clear t9 HS0 cE)
        | (go_at_call 35; refine (HC0.out _ (T8.out.trans' T9.out)).mono ?_; rintro e w10 ⟨rfl, t10⟩; have T10 := hid (T9.out.trans' t10); clear t10)
        | (go_at_call 31; refine (H9.out _ _ (R8.out _ T10.out)).mono ?_; rintro e w11 ⟨pm, rfl, hA⟩; have HA := hid hA; clear hA))
      have T10w := hid (T8.out.trans' T10.out)
      clear hb
      rcases HA.out with ⟨ho, rfl, tA⟩ | ⟨ho, ho1, m, F, rfl, hmq, hF, tA⟩
      · rw [HOE.out] at ho
        have hs0 := HSN.out ho
        have TA := hid (T10w.out.trans' tA)
        clear tA ho
        by_cases hg1 : g1 = sO
        · have hb : ((g1 : Int) != 0) = false := by rw [hg1, hs0]; rfl
          have HG1 := hid hg1
          clear hg1 hs0
          go_wp2_with (go_at_call 56; refine (sumOfMemo_nil _).mono ?_; rintro e w12 ⟨rfl, e12⟩; rw [e12]; clear e12 w12)
          exact bodyPost_ret (v := .tuple #[.pointer none, .int .i64 oa, .int .i64 oe]) (by simp [results, Tryz.results17, go_sem]) rfl (HAP.out _ _ (Or.inr (Or.inr (Or.inr ⟨HE.out, HG.out, HG1.out, _, _, _, rfl, T10w.out, HA.out, Touch.refl _ _⟩))))
        · have hb : ((g1 : Int) != 0) = true := by rw [hs0] at hg1; simp; omega
          have HG1 := hid hg1
          clear hg1 hs0
          go_wp2_with (go_at_call 56; refine (sumOfMemo_nil _).mono ?_; rintro e w12 ⟨rfl, e12⟩; rw [e12]; clear e12 w12)
          exact bodyPost_ret (v := .tuple #[.pointer none, .int .i64 16, .int .i64 202]) (by simp [results, Tryz.results17, go_sem]) rfl (HAP.out _ _ (Or.inr (Or.inr (Or.inl ⟨HE.out, HG.out, HG1.out, rfl, TA.out⟩))))
      · rw [HOE.out] at ho
        have HSu := hid (HSM.out _ m F hmq ho)
        have TA := hid (T10w.out.trans' tA)
        clear tA ho ho1 hmq hF
        unfold PT at *
        by_cases hg1 : g1 = sO
        · have hb : ((g1 : Int) != (sO : Int)) = false := by rw [hg1]; simp
          have HG1 := hid hg1
          clear hg1
          go_wp2_with (go_at_call 56; refine HSu.out.mono ?_; rintro e w12 ⟨rfl, t12⟩; have T12 := hid t12; clear t12)
          exact bodyPost_ret (v := .tuple #[.pointer (some ⟨m, 0, none⟩), .int .i64 oa, .int .i64 oe]) (by simp [results, Tryz.results17, go_sem]) rfl (HAP.out _ _ (Or.inr (Or.inr (Or.inr ⟨HE.out, HG.out, HG1.out, _, _, _, rfl, T10w.out, HA.out, T12.out⟩))))
        · have hb : ((g1 : Int) != (sO : Int)) = true := by simp; omega
          have HG1 := hid hg1
          clear hg1
          go_wp2_with (go_at_call 56; refine HSu.out.mono ?_; rintro e w12 ⟨rfl, t12⟩; have T12 := hid t12; clear t12)
          exact bodyPost_ret (v := .tuple #[.pointer none, .int .i64 16, .int .i64 202]) (by simp [results, Tryz.results17, go_sem]) rfl (HAP.out _ _ (Or.inr (Or.inr (Or.inl ⟨HE.out, HG.out, HG1.out, rfl, TA.out.trans' T12.out⟩))))
    · have HG := hid hg
      have hb : ((g0 : Int) != (sM : Int)) = true := by simp; omega
      clear he hg
      go_wp2_with (go_at_call 56; refine (HS0.out _ T8.out).mono ?_; rintro e w9 ⟨rfl, t9⟩; have T9 := hid t9; clear t9 HS0 cE)
      exact bodyPost_ret (v := .tuple #[.pointer none, .int .i64 8, .int .i64 202]) (by simp [results, Tryz.results17, go_sem]) rfl (HAP.out _ _ (Or.inr (Or.inl ⟨HE.out, HG.out, rfl, T8.out.trans' T9.out⟩)))
  · have hb : (x8.er != 0) = true := by simpa using he
    have hb' : (x8.er == 0) = false := by simpa using he
    have C1 : ∀ w', Touch [] w8 w' → w'.cell? ⟨r, 1, none⟩ = some (.int .i64 x8.at_) := fun w' t => cell_at (t.keep q8 (by simp)) rfl
    have C2 : ∀ w', Touch [] w8 w' → w'.cell? ⟨r, 2, none⟩ = some (.int .i64 x8.er) := fun w' t => cell_at (t.keep q8 (by simp)) rfl
    have zz := q8.lt
    go_upto_region 10 with fail
    clear cE hb hb' q8
    go_region_held3 (fun w' => Touch [] w8 w') (first | assumption | exact (Touch.refl _ _).drew | exact Touch.refl _ _ | exact Touch.drew (by assumption)) (fail)
    all_goals
      go_wp2_with fail
      exact bodyPost_ret (v := .tuple #[.pointer none, .int .i64 x8.at_, .int .i64 x8.er]) (by simp [results, Tryz.results17, go_sem]) rfl (HAP.out _ _ (Or.inl ⟨he, rfl, T8.out.trans' (by assumption)⟩))
end Go.Proofs.YtpefbmheblfbeaaGreat.Sn
/- The statements' own look that the program is awake: it is; no conditions. -/
namespace Go.Proofs.YtpefbmheblfbeaaGreat.Sn
open Go.RowKit Go.Sort
set_option linter.unusedVariables false
theorem n300 : numL 300 = [172, 2] := by
  rw [numL_go (by omega), numL_end (by omega)]; decide
theorem take300 : takeAt ⟨#[172, 2]⟩ 0 = some (300, 2) := by decide
theorem awake_ (w : World) : Calls Tryz.prog 8 #[] w fun e w' => e = .returned (.bool true) ∧ Touch [] w w' := by
  have H1 := hid (take_ w ⟨#[172, 2]⟩ 0 (by decide) (by omega) (by omega))
  rw [take300] at H1
  unfold takeV at H1
  have H2 := hid (number_ w 300 (by omega))
  rw [n300] at H2
  have H3 : Hid (∀ w, Calls Tryz.prog 30 #[.int .i64 (-1)] w fun e w' => e = .returned (.int .u64 1) ∧ w' = w) := hid (fun w => sign_ w (-1) (by omega) (by omega))
  go_enter Tryz.func8, Tryz.ntmps8
  go_wp2_with (first
    | (go_at_call 28; refine H1.out.mono ?_; rintro e w1 ⟨rfl, rfl⟩)
    | (go_at_call 29; refine H2.out.mono ?_; rintro e w2 ⟨rfl, T2⟩)
    | (go_at_call 30; refine (H3.out _).mono ?_; rintro e w3 ⟨rfl, rfl⟩))
  go_ret
  exact ⟨rfl, T2⟩
end Go.Proofs.YtpefbmheblfbeaaGreat.Sn
/- The contract of a memo's Drop; no conditions. -/
namespace Go.Proofs.YtpefbmheblfbeaaGreat.Me
open Go.RowKit Go.Sort Go.Maps Go.ChangeMaps Go.WideMaps
set_option maxRecDepth 100000
set_option linter.unusedVariables false
set_option linter.unusedSimpArgs false
theorem drx_length {xs : List En} (hn : (keysL xs).Nodup) (k : K) : (drx xs k).length = if (mpf xs k).isSome then xs.length - 1 else xs.length := by
  have h := putY_len hn k ((0, 0, 0, 0), 0)
  unfold putY at h
  rw [List.length_append, List.length_singleton] at h
  split at h
  · rename_i e; rw [if_pos e]; omega
  · rename_i e; rw [if_neg e]; omega
theorem del_mpf (xs : List En) (k : K) : YtpefbmheblfbeaaGreat.Me.del (mpf xs) k = mpf (drx xs k) := by
  funext j
  unfold YtpefbmheblfbeaaGreat.Me.del mpf
  by_cases e : j = k
  · rw [if_pos e, e, fnd_drx_same]; rfl
  · rw [if_neg e, fnd_drx_other xs e]
theorem dropB (w : World) (o : Nat) (F : List Nat) (most : Int) (ks : List K) (k : K) (hk : Ok k) (h : Oq w o F most ks) : Calls Tryz.prog 77 #[PT o, kv k] w fun x w' => x = .returned (.bool (hs ks k)) ∧ Ch w o F most (dr ks k) w' := by
  by_cases hm : k ∈ ks
  · rw [hs_yes hm]
    exact dropO_yes w o F most ks k hm h
  · rw [hs_no hm, dr_no hm]
    exact (dropO_no w o F most ks k hk hm h).mono fun x w' ⟨he, t⟩ => ⟨he, F, h.keep0 t, t.mono (fun _ e => by cases e), Nf.refl _ _⟩
set_option maxHeartbeats 2000000 in
theorem dropM (w : World) (m : Nat) (F : List Nat) (c : Cf) (now : Int) (xs : List En) (h : Mq w m F c now xs) (k : K) (hk : Ok k) :
    Calls Tryz.prog 23 #[PT m, kv k] w fun e w' => e = .returned (.bool (hs (keysL xs) k)) ∧ Mc w m F c now (drx xs k) w' := by
  obtain ⟨b, o, G, rfl, h⟩ := h
  obtain ⟨V, hV⟩ : ∃ V, V = w.alloc (bx k) := ⟨_, rfl⟩
  have TV : Touch [] w V := by rw [hV]; exact (Touch.refl _ _).alloc _
  have hB : V.heap[w.heap.size]? = some (bx k) := by rw [hV]; exact heap_alloc_new w _
  have hV' := h.keep0 TV
  obtain ⟨ob, hu, hmp⟩ := (show MapAt V.drew b _ _ from hV'.mp.kept rfl).del (t := 141) Tryz.underlying141 hk 0
  obtain ⟨W1, hW⟩ : ∃ W1, W1 = setBlock V.drew b ob := ⟨_, rfl⟩
  rw [← hW] at hu hmp
  have T1 : Touch [b] V W1 := by rw [hW]; exact touch_setBlock ((Touch.refl _ _).drew) (Or.inl (by simp)) _
  have hlt := h.lt
  have hbl := hlt b (by simp)
  have O1 : Oq W1 o G c.e (keysL xs) := hV'.oq.keep T1 (fun i hi hh => by simp only [List.mem_singleton] at hh; subst hh; exact h.bg hi)
  have m1 : Md W1 m c now b o := T1.keep hV'.md (by simpa using h.mb.symm)
  have B1 : W1.heap[w.heap.size]? = some (bx k) := T1.keep hB (by simp; omega)
  have HD : Hid (Calls Tryz.prog 77 #[PT o, kv k] W1.drew fun x w' => x = .returned (.bool (hs (keysL xs) k)) ∧ Touch G W1 w' ∧ Mc w m (m :: b :: G) c now (drx xs k) w') := hid ((dropB W1.drew o G c.e (keysL xs) k hk (O1.keep0 (Touch.refl _ _).drew)).mono (by
    rintro x w3 ⟨rfl, G', c1, c2, c3⟩
    have T3 : Touch G W1 w3 := ((Touch.refl G W1).drew).trans' c2
    have hz1 := T1.size
    have hz0 := TV.size
    refine ⟨rfl, T3, m :: b :: G', ⟨b, o, G', rfl, T3.keep m1 h.mg, ?_, ?_, h.gd.drop k, fun hh => (c3 b hh).elim h.bg (fun e => by have : W1.heap.size ≤ b := e; omega)⟩, ?_, fun i hi => ?_⟩
    · rw [drx_length h.nd, ← del_mpf]
      exact hmp.kept (T3.block b hmp.lt h.bg)
    · rw [drx_keys]
      exact c1
    · exact ((TV.mono (fun _ e => by cases e)).trans' (T1.mono (fun i hi => by simp only [List.mem_singleton] at hi; subst hi; simp))).trans' (T3.mono (fun i hi => by simp [hi]))
    · simp only [List.mem_cons] at hi ⊢
      rcases hi with rfl | rfl | hi
      · exact Or.inl (Or.inl rfl)
      · exact Or.inl (Or.inr (Or.inl rfl))
      · exact (c3 i hi).elim (fun e => Or.inl (Or.inr (Or.inr e))) (fun e => Or.inr (by have : W1.heap.size ≤ i := e; omega))))
  have c8 : V.cell? ⟨m, 8, none⟩ = some (.map (some b)) := hV'.md.cs.c8
  have sA : ∀ w', Touch G W1 w' → w'.cell? ⟨m, 9, none⟩ = some (.pointer (some ⟨o, 0, none⟩)) := fun w' t => (show Md w' m c now b o from t.keep m1 h.mg).cs.c9
  have sB : ∀ w', Touch G W1 w' → w'.cell? ⟨w.heap.size, 0, none⟩ = some (.int .u16 k.1) := fun w' t => by
    have := t.keep B1 (fun hh => by have := hlt w.heap.size (by simp [hh]); omega)
    unfold bx at this
    simp [World.cell?, this]
  have sC : ∀ w', Touch G W1 w' → w'.cell? ⟨w.heap.size, 1, none⟩ = some (.string k.2) := fun w' t => by
    have := t.keep B1 (fun hh => by have := hlt w.heap.size (by simp [hh]); omega)
    unfold bx at this
    simp [World.cell?, this]
  unfold bx at hB
  have b0 : V.cell? ⟨w.heap.size, 0, none⟩ = some (.int .u16 k.1) := by simp [World.cell?, hB]
  have b1 : V.cell? ⟨w.heap.size, 1, none⟩ = some (.string k.2) := by simp [World.cell?, hB]
  clear h hV' hmp T1 O1 m1 B1 hB hW TV
  generalize hs (keysL xs) k = B at *
  unfold PT kv at *
  go_enter Tryz.func23, Tryz.ntmps23
  go_wp2
  unfold bx at hV
  rw [← hV]
  clear hV
  go_region
  clear b0 b1 c8 hu
  go_upto_region 4 with fail
  have t0 : Touch G W1 W1.drew := (Touch.refl _ _).drew
  go_region_held3 (fun w' => Touch G W1 w') (first | assumption | exact (Touch.refl _ _).drew) ((go_at_call 77; refine HD.out.mono ?_; rintro e w3 ⟨rfl, t3, c3⟩; have C3 := hid c3; clear c3))
  go_wp2
  go_ret
  exact ⟨rfl, C3.out⟩
end Go.Proofs.YtpefbmheblfbeaaGreat.Me
/- The contract of a memo's Clone: a memo of its own that keeps the same; no conditions. -/
namespace Go.Proofs.YtpefbmheblfbeaaGreat.Me
open Go.RowKit Go.Sort Go.Maps Go.ChangeMaps Go.WideMaps
set_option maxRecDepth 100000
set_option linter.unusedVariables false
set_option linter.unusedSimpArgs false
theorem MapAt.copy {w : World} {b n : Nat} {f : K → Option Value} (h : MapAt w b n f) : ∃ es cl, w.heap[b]? = some (.map es cl) ∧ MapAt (w.alloc (.map es cl)) w.heap.size n f := by
  obtain ⟨D, ⟨es, cl, hb, r⟩, h2, h3⟩ := h
  exact ⟨es, cl, hb, D, ⟨es, cl, heap_alloc_new w _, r⟩, h2, h3⟩
set_option maxHeartbeats 1000000 in
theorem clone54 (w : World) (b n : Nat) (f : K → Option Value) (h : MapAt w b n f) : Calls Tryz.prog 71 #[.map (some b)] w fun e w' => e = .returned (.map (some w.heap.size)) ∧ MapAt w' w.heap.size n f ∧ Touch [] w w' := by
  obtain ⟨es, cl, hb, hm⟩ := h.copy
  have HM := hid hm
  have hq := fun w => run_eql_map_nil_sl (P := Tryz.prog) w 141 _ _ (some b) Tryz.underlying141
  have hta := fun w v => run_typeAssert_map_sl (P := Tryz.prog) w 141 20 _ _ v Tryz.underlying141
  clear h hm
  go_enter Tryz.func71, Tryz.ntmps71
  go_wp2
  rw [run_callFunc_extern Tryz.func111 (by kernel_rfl) (by kernel_rfl) (by kernel_rfl) (e := Extern.MapsClone.clone) (by kernel_rfl), run_maps_clone_sl w 141 hb]
  simp only [Result.andThen]
  rw [Oper.upon_value]
  go_wp2
  go_ret
  exact ⟨rfl, HM.out, (Touch.refl _ _).alloc _⟩
def CpQ (w : World) (m2 : Nat) (c : Cf) (now : Int) (xs : List En) (w' : World) : Prop := ∃ F', Mq w' m2 F' c now xs ∧ (∀ k ∈ F', w.heap.size ≤ k) ∧ Touch [] w w'
set_option maxHeartbeats 2000000 in
theorem cloneM (w : World) (m : Nat) (F : List Nat) (c : Cf) (now : Int) (xs : List En) (h : Mq w m F c now xs) : Calls Tryz.prog 20 #[PT m] w fun e w' => ∃ m2, e = .returned (PT m2) ∧ CpQ w m2 c now xs w' := by
  obtain ⟨b, o, G, rfl, h⟩ := h
  have hg := h.gd
  have hlen := h.len
  have HA : Hid (∀ w', Touch [] w w' → Calls Tryz.prog 71 #[.map (some b)] w' fun e w2 => ∃ b2, e = .returned (.map (some b2)) ∧ Touch [] w w2 ∧ w.heap.size ≤ b2 ∧ MapAt w2 b2 xs.length (mpf xs)) := hid (fun w' t => by
    refine (clone54 w' b _ _ (h.keep0 t).mp).mono ?_
    rintro e w2 ⟨rfl, h1, h2⟩
    exact ⟨_, rfl, t.trans' h2, t.size, h1⟩)
  have HB : Hid (∀ w' b2, Touch [] w w' → MapAt w' b2 xs.length (mpf xs) → Calls Tryz.prog 72 #[.pointer (some ⟨o, 0, none⟩)] w' fun e w2 => ∃ o2, e = .returned (.pointer (some ⟨o2, 0, none⟩)) ∧ Touch [] w w2 ∧ ∃ G2, Oq w2 o2 G2 c.e (keysL xs) ∧ (∀ k ∈ G2, w.heap.size ≤ k) ∧ ¬ b2 ∈ G2 ∧ MapAt w2 b2 xs.length (mpf xs)) := hid (fun w' b2 t hm => by
    refine (cloneO w' o G c.e (keysL xs) (by rw [keysL_len]; omega) (h.keep0 t).oq).mono ?_
    rintro e w2 ⟨rfl, G2, h1, h2, h3⟩
    exact ⟨_, rfl, t.trans' h3, G2, h1, fun k hk => Nat.le_trans t.size (h2 k hk), fun hh => by have := h2 _ hh; have := hm.lt; omega, hm.kept (h3.block _ hm.lt (by simp))⟩)
  have sC : ∀ w', Touch [] w w' → MdC w' m c now b o := fun w' t => (h.keep0 t).md.cs
  have s0 := fun w' t => (sC w' t).c0
  have s1 := fun w' t => (sC w' t).c1
  have s2 := fun w' t => (sC w' t).c2
  have s3 := fun w' t => (sC w' t).c3
  have s4 := fun w' t => (sC w' t).c4
  have s5 := fun w' t => (sC w' t).c5
  have s6 := fun w' t => (sC w' t).c6
  have s7 := fun w' t => (sC w' t).c7
  have s8 := fun w' t => (sC w' t).c8
  have s9 := fun w' t => (sC w' t).c9
  have HG := hid hg
  clear h sC hg hlen
  unfold PT
  go_enter Tryz.func20, Tryz.ntmps20
  go_upto_region 3 with fail
  have t0 : Touch [] w w.drew := (Touch.refl _ _).drew
  go_region_held3 (fun w' => Touch [] w w') (repeat (first | assumption | exact Touch.refl _ _ | apply Touch.alloc | apply Touch.drew)) (first
    | (go_at_call 71; refine (HA.out _ (by first | assumption | exact (Touch.refl _ _).drew)).mono ?_; rintro e w2 ⟨b2, rfl, t2, z2, m2⟩; have M2 := hid m2; clear m2)
    | (go_at_call 72; refine (HB.out _ b2 (by assumption) M2.out).mono ?_; rintro e w3 ⟨o2, rfl, t3, q3⟩; have Q3 := hid q3; clear q3)
    | fail)
  all_goals
    go_wp2
    refine bodyPost_ret (v := .pointer (some ⟨w3.heap.size, 0, none⟩)) (by simp [results, Tryz.results20, go_sem]) rfl ⟨_, rfl, ?_⟩
    obtain ⟨G2, q1, q2, q3, q4⟩ := Q3.out
    have tn : Touch [] w3 (w3.alloc (.cells (mcs c now b2 o2) 144)) := (Touch.refl _ _).alloc _
    refine ⟨w3.heap.size :: b2 :: G2, ⟨b2, o2, G2, rfl, heap_alloc_new w3 _, q4.kept (tn.block _ q4.lt (by simp)), q1.keep0 tn, HG.out, q3⟩, fun k hk => ?_, t3.trans' tn⟩
    simp only [List.mem_cons] at hk
    rcases hk with rfl | rfl | hk
    · exact t3.size
    · exact z2
    · exact q2 k hk
end Go.Proofs.YtpefbmheblfbeaaGreat.Me
/- What the statements on reading back stand on: what is kept by what is done to a memo, a patch laid over the old memo, and three memos side by side; the conditions are those that each states. -/
namespace Go.Proofs.YtpefbmheblfbeaaGreat.Sn
open Go.RowKit Go.Sort Go.Shelf Me
set_option linter.unusedVariables false
set_option linter.unusedSimpArgs false
def EK (c : Cf) (xs : List En) : Prop := ∀ x ∈ xs, EnOk x ∧ keepsC c x.2.1 = true
theorem Bk.ek {c : Cf} {now : Int} {xs : List En} (h : Bk c now xs) : EK c xs := fun x hx => ⟨h.mm.x x hx, h.kp x hx⟩
theorem Bk.ofM {w : World} {m : Nat} {F : List Nat} {c : Cf} {now : Int} {xs : List En} (h : Mq w m F c now xs) (hc : CfOk c) (he : EK c xs) : Bk c now xs := by
  have g := h.gd
  have n1 := g.n1
  unfold MT at n1
  exact ⟨g.oc, g.n0, n1, ⟨hc, ⟨g.n0, by omega⟩, fun x hx => (he x hx).1, h.len⟩, fun x hx => (g.ok x hx).1, fun x hx => (he x hx).2, fun x hx => (g.ok x hx).2.2, g.ln, h.nd⟩
theorem EK.sub {c : Cf} {xs ys : List En} (h : EK c xs) (hs : ∀ x ∈ ys, x ∈ xs) : EK c ys := fun x hx => h x (hs x hx)
theorem EK.drop {c : Cf} {xs : List En} (h : EK c xs) (k : K) : EK c (drx xs k) := h.sub (fun x hx => (List.mem_filter.1 hx).1)
theorem mem_putY {xs : List En} {k : K} {v : V} {x : En} (h : x ∈ putY xs k v) : x ∈ xs ∨ x = (k, v) := by
  unfold putY at h
  rw [List.mem_append, List.mem_singleton] at h
  rcases h with h | h
  · exact Or.inl (List.mem_filter.1 h).1
  · exact Or.inr h
theorem EK.keep {c : Cf} {xs : List En} (h : EK c xs) {now n : Int} {k : K} {x : O} (ok : Ok k) (wo : Wo x) (h0 : 0 ≤ now) : EK c (kpX c now n xs k x) := by
  unfold kpX
  cases hb : kpB c now n k x with
  | false => simpa using h
  | true =>
    rw [if_pos rfl]
    unfold kpB at hb
    rw [Bool.and_eq_true, decide_eq_true_eq] at hb
    obtain ⟨he, hk⟩ := hb
    unfold keepE at he
    by_cases ht : tickE now n = 0
    · rw [if_pos ht] at he
      obtain ⟨p1, p2⟩ := pairE_ok he
      obtain ⟨t1, t2⟩ := tickE_ok ht
      unfold MT at t2
      obtain ⟨r1, r2⟩ := right_k p2 hk
      obtain ⟨w1, w2, w3, w4⟩ := wo
      have f1 : 0 ≤ k.1 ∧ k.1 ≤ 65535 := by simpa [Lit.wf, IntKind.min, IntKind.max, IntKind.signed, IntKind.bits] using ok.1
      have hn : EnOk (k, (x, n)) ∧ keepsC c x = true := ⟨⟨f1.1, f1.2, p1, by show (0 : Int) ≤ n; omega, by show n ≤ 9223372036854775807; omega, w64 w1, w64 w3, r1, ⟨r2, (w64 w4).2⟩⟩, hk⟩
      have hp : EK c (putY xs k (x, n)) := fun y hy => by
        rcases mem_putY hy with q | rfl
        · exact h y q
        · exact hn
      unfold putL
      split
      · exact hp.sub (fun y hy => List.mem_of_mem_tail hy)
      · exact hp
    · rw [if_neg ht] at he
      exact absurd he ht
theorem ofP_bk {c : Cf} {now : Int} {xs : List En} (h : Bk c now xs) : ofP c now xs = (0, 0) := by
  unfold ofP
  rw [if_neg (by rw [h.oc]; simp), if_neg (by rw [isT_yes h.n0 (by unfold MT; exact h.n1)]; simp), if_neg (by have := h.ln; omega)]
  refine ofL_zero _ _ _ [] 0 (fun pre x post e => ?_)
  have hx : x ∈ xs := by rw [e]; simp
  have hp : pairE x.1 x.2.1 = 0 := by
    unfold pairE
    rw [if_neg (by have := (h.mm.x x hx).nm; omega), if_pos (h.rt x hx)]
  have hn : hs (keysL pre) x.1 = false := hs_no (fun hm => by
    have nd := h.nd
    rw [e] at nd
    unfold keysL at nd hm
    rw [List.map_append, List.map_cons, List.nodup_append] at nd
    exact nd.2.2 _ hm _ (by simp) rfl)
  have t0 := (h.mm.x x hx).t0
  have t1 := h.tm x hx
  rw [List.nil_append]
  unfold nxE
  rw [hp, fnd_isSome, hn, h.kp x hx]
  simp
  omega
def MkQ (w : World) (c : Cf) (now : Int) (xs : List En) (m : Nat) (w' : World) : Prop := ∃ F, Mq w' m F c now xs ∧ (∀ i ∈ F, w.heap.size ≤ i) ∧ Touch [] w w'
theorem apply_ok {w : World} {m0 : Nat} {F0 : List Nat} {c : Cf} {n0 now : Int} {ys xs : List En} {gs : List K} (h0 : Mq w m0 F0 c n0 ys) (b0 : Bk c n0 ys) (b1 : Bk c now xs) (hn : n0 ≤ now) (hg : gs.Perm (gonL ys xs)) (hs : (patS c n0 ys now xs gs).size ≤ 140737488351232) : Calls Tryz.prog 17 #[PT m0, .string (patS c n0 ys now xs gs)] w fun e w' => ∃ m, e = .returned (.tuple #[PT m, .int .i64 0, .int .i64 0]) ∧ MkQ w c now xs m w' := by
  have P := patch_back b0 b1 hn hg
  have e0 := ofP_bk b1
  refine (apply_ h0 b0.mm hs (fun _ => by rw [P.n, P.l]; exact b1.mm)).mono fun e w' q => ?_
  unfold ApQ at q
  rw [P.n, P.l, P.s0, P.s1, e0] at q
  have hsm : smO c now xs = smM c now xs := by unfold smO; rw [e0, if_pos rfl]
  rw [hsm] at q
  rcases q with ⟨q, _⟩ | ⟨_, q, _⟩ | ⟨_, _, q, _⟩ | ⟨_, _, _, pm, w9, w10, rfl, t9, q, t10⟩
  · exact absurd P.er q
  · exact absurd rfl q
  · exact absurd rfl q
  · rcases q with ⟨q, _⟩ | ⟨_, _, m, F, rfl, mq, hF, t⟩
    · rw [e0] at q
      exact absurd rfl q
    · exact ⟨m, rfl, F, mq.keep0 t10, fun i hi => Nat.le_trans t9.size (hF i hi), (t9.trans' t).trans' t10⟩
theorem patS_le {c : Cf} {n0 : Int} {ys : List En} {now : Int} {xs : List En} {gs : List K} (b0 : Bk c n0 ys) (b1 : Bk c now xs) (hg : gs.Perm (gonL ys xs)) : (patS c n0 ys now xs gs).size ≤ 140737488351232 := by
  have q := keysB_len (gon_key b0.mm hg).1 (gon_key b0.mm hg).2
  have q2 := entsB_len (xs := othL ys xs) (fun x hx => b1.mm.x x (List.mem_filter.1 hx).1) (Nat.le_trans (othL_len ys xs) b1.mm.l)
  have q3 := keysB_len (ks := keysL xs) b1.key (by rw [keysL_len]; exact b1.mm.l)
  have l2 := nB_len (n := now) (by have := b1.n1; omega)
  rw [patS_size]
  unfold bodyQ
  simp only [List.length_append, by8_len]
  show 8 + _ + 8 ≤ _
  omega
theorem same_eq {w : World} {m0 m : Nat} {F0 F : List Nat} {c : Cf} {now : Int} {xs : List En} (h0 : Mq w m0 F0 c now xs) (h : Mq w m F c now xs) (b : Bk c now xs) : Calls Tryz.prog 19 #[PT m0, PT m] w fun e w' => e = .returned (.bool true) ∧ Touch [] w w' :=
  (same_ (fun w' t => tell_ (h0.keep0 t) b.mm) (fun w' t => tell_ (h.keep0 t) b.mm)).mono fun e w' q => ⟨by rw [q.1]; simp, q.2⟩
structure Bs (V wr : World) (c : Cf) (m : Nat) (F : List Nat) (now : Int) (xs : List En) (o : Nat) (Fo : List Nat) (no : Int) (Lo : List En) (b : Nat) (Fb : List Nat) (nb : Int) (Lb : List En) : Prop where
  t : Touch [] V wr
  m : Mq wr m F c now xs
  o : Mq wr o Fo c no Lo
  b : Mq wr b Fb c nb Lb
  fo : ∀ k ∈ Fo, V.heap.size ≤ k
  fb : ∀ k ∈ Fb, V.heap.size ≤ k
  d1 : ∀ k ∈ Fo, ¬ k ∈ F
  d2 : ∀ k ∈ Fb, ¬ k ∈ F
  d3 : ∀ k ∈ Fo, ¬ k ∈ Fb
section
variable {V wr w2 : World} {c : Cf} {m : Nat} {F : List Nat} {now : Int} {xs : List En} {o : Nat} {Fo : List Nat} {no : Int} {Lo : List En} {b : Nat} {Fb : List Nat} {nb : Int} {Lb : List En}
theorem Bs.keep0 (h : Bs V wr c m F now xs o Fo no Lo b Fb nb Lb) (t : Touch [] wr w2) : Bs V w2 c m F now xs o Fo no Lo b Fb nb Lb :=
  ⟨h.t.trans' t, h.m.keep0 t, h.o.keep0 t, h.b.keep0 t, h.fo, h.fb, h.d1, h.d2, h.d3⟩
theorem Bs.setO (h : Bs V wr c m F now xs o Fo no Lo b Fb nb Lb) {n2 : Int} {ys : List En} (q : Mc wr o Fo c n2 ys w2) : ∃ Fo', Bs V w2 c m F now xs o Fo' n2 ys b Fb nb Lb := by
  obtain ⟨F', h1, h2, h3⟩ := q
  refine ⟨F', h.t.trans h2 (fun k hk => Or.inr (h.fo k hk)), h.m.keep h2 (fun k hk e => h.d1 k e hk), h1, h.b.keep h2 (fun k hk e => h.d3 k e hk), fun k hk => ?_, h.fb, fun k hk => ?_, h.d2, fun k hk => ?_⟩
  · rcases h3 k hk with e | e
    · exact h.fo k e
    · exact Nat.le_trans h.t.size e
  · rcases h3 k hk with e | e
    · exact h.d1 k e
    · intro e2; have := h.m.lt k e2; omega
  · rcases h3 k hk with e | e
    · exact h.d3 k e
    · intro e2; have := h.b.lt k e2; omega
theorem Bs.swap (h : Bs V wr c m F now xs o Fo no Lo b Fb nb Lb) : Bs V wr c m F now xs b Fb nb Lb o Fo no Lo :=
  ⟨h.t, h.m, h.b, h.o, h.fb, h.fo, h.d2, h.d1, fun k hk e => h.d3 k e hk⟩
theorem Bs.keepO (h : Bs V wr c m F now xs o Fo no Lo b Fb nb Lb) (n : Int) (k : K) (ok : Ok k) (x : O) : Calls Tryz.prog 21 #[PT o, .int .i64 n, kv k, ov x] wr fun e w' => ∃ a cp Fo', e = .returned (.tuple #[.bool (kpB c no n k x), .slice a (kpG c no n Lo k x).length cp, .int .i64 (keepE no n k x)]) ∧ Bs V w' c m F now xs o Fo' (kpN no n k x) (kpX c no n Lo k x) b Fb nb Lb ∧ Touch Fo wr w' :=
  (keepM wr o Fo c no n Lo h.o k ok x).mono fun e w' ⟨u, he, hu, hq⟩ => by
    obtain ⟨a, cp, eu⟩ := own_form hu
    subst eu
    obtain ⟨F', h1⟩ := h.setO hq
    exact ⟨a, cp, F', he, h1, hq.choose_spec.2.1⟩
theorem Bs.dropO (h : Bs V wr c m F now xs o Fo no Lo b Fb nb Lb) (k : K) (ok : Ok k) : Calls Tryz.prog 23 #[PT o, kv k] wr fun e w' => ∃ Fo', e = .returned (.bool (hs (keysL Lo) k)) ∧ Bs V w' c m F now xs o Fo' no (drx Lo k) b Fb nb Lb ∧ Touch Fo wr w' :=
  (dropM wr o Fo c no Lo h.o k ok).mono fun e w' ⟨he, hq⟩ => by
    obtain ⟨F', h1⟩ := h.setO hq
    exact ⟨F', he, h1, hq.choose_spec.2.1⟩
end
theorem kpN_le {now n : Int} {k : K} {x : O} : now ≤ kpN now n k x := by
  unfold kpN
  split
  · rename_i h
    unfold keepE at h
    by_cases ht : tickE now n = 0
    · exact (tickE_ok ht).1
    · rw [if_neg ht] at h; exact absurd h ht
  · exact Int.le_refl _
theorem Bs.start {w1 w2 w3 w4 : World} {c : Cf} {m : Nat} {F : List Nat} {now : Int} {xs : List En} {o b : Nat} (hm : Mq w1 m F c now xs) (qb : MkQ w1 c now xs b w2) (t : Touch [] w2 w3) (qo : CpQ w3 o c now xs w4) : ∃ Fo Fb, Bs w1 w4 c m F now xs o Fo now xs b Fb now xs := by
  obtain ⟨Fb, b1, b2, b3⟩ := qb
  obtain ⟨Fo, o1, o2, o3⟩ := qo
  have b4 := b1.keep0 t
  have m3 := (hm.keep0 b3).keep0 t
  refine ⟨Fo, Fb, (b3.trans' t).trans' o3, m3.keep0 o3, o1, b4.keep0 o3, fun k hk => Nat.le_trans (b3.trans' t).size (o2 k hk), b2, fun k hk e => ?_, fun k hk e => ?_, fun k hk e => ?_⟩
  · have := o2 k hk
    have := m3.lt k e
    omega
  · have := b2 k hk
    have := hm.lt k e
    omega
  · have := o2 k hk
    have := b4.lt k e
    omega
theorem read_ok (w : World) {c : Cf} {now : Int} {xs : List En} (h : Bk c now xs) (hs : (tellS c now xs).size ≤ 140737488351232) : Calls Tryz.prog 12 #[.string (tellS c now xs)] w fun e w' => ∃ m, e = .returned (.tuple #[PT m, .int .i64 0, .int .i64 0]) ∧ MkQ w c now xs m w' :=
  (read_ w (tellS c now xs) hs).mono fun e w' q => by
    have e0 := ofP_bk h
    rw [rd2_back h, rd3_back h, rd4_back h] at q
    rcases q with ⟨q, _⟩ | ⟨_, pm, rfl, w9, t9, q⟩
    · exact absurd (rd5_back h) q
    · rcases q with ⟨q, _⟩ | ⟨_, _, m, F, rfl, mq, hF, t⟩
      · simp only [e0] at q
        exact absurd rfl q
      · exact ⟨m, by simp only [e0], F, mq, fun i hi => Nat.le_trans t9.size (hF i hi), t9.trans' t⟩
theorem tellS_le {c : Cf} {now : Int} {xs : List En} (h : Bk c now xs) : (tellS c now xs).size ≤ 140737488351232 := by
  have := bodyB_len h.mm
  rw [tellS_size]
  omega
theorem read_cut (w : World) {c : Cf} {now : Int} {xs : List En} (h : Bk c now xs) {p : ByteArray} {cut : Nat} (hp : Pre (tellS c now xs) p cut) (hc : cut < (tellS c now xs).size) : Calls Tryz.prog 12 #[.string p] w fun e w' => ∃ k, e = .returned (.tuple #[.pointer none, .int .i64 k, .int .i64 200]) ∧ Touch [] w w' :=
  (read_ w p (by have := tellS_le h; rw [hp.size]; omega)).mono fun e w' q => by
    have e2 := rd5_cut h hp hc
    rcases q with ⟨_, q1, q2⟩ | ⟨q, _⟩
    · exact ⟨_, by rw [q1, e2], q2⟩
    · omega
theorem endS_all (c : Cf) (now : Int) (xs : List En) : (endS (tellS c now xs).data.toList).2 = true ∧ (endS (tellS c now xs).data.toList).1 = val8 ((tellS c now xs).data.toList.drop ((tellS c now xs).size - 8)) := by
  have hz := tellS_size c now xs
  have hl : (tellS c now xs).data.toList.length = (tellS c now xs).size := by simp
  unfold endS
  rw [if_neg (by omega), hl]
  have e : (tellS c now xs).size - 8 = (bodyB c now xs).length := by omega
  refine ⟨?_, rfl⟩
  simp only
  rw [e, tellS_data, List.drop_left, List.take_left]
  have hv := val8_by8 (sumL (bodyB c now xs)) (sumL_lt _) []
  rw [List.append_nil] at hv
  rw [hv]
  simp
theorem ra7_cell {w : World} {a : Option Addr} {n cp : Nat} {xs : List En} (h : RA w (.slice a n cp) xs) {i : Nat} (hi : i < xs.length) : ∃ g off, a = some ⟨g, off, none⟩ ∧ w.cell? ⟨g, off + i * 7, none⟩ = some (.int .u16 xs[i].1.1) ∧ w.cell? ⟨g, off + i * 7 + 1, none⟩ = some (.string xs[i].1.2) ∧ w.cell? ⟨g, off + i * 7 + 2, none⟩ = some (.int .i64 xs[i].2.1.1) ∧ w.cell? ⟨g, off + i * 7 + 3, none⟩ = some (.int .i64 xs[i].2.1.2.1) ∧ w.cell? ⟨g, off + i * 7 + 4, none⟩ = some (.int .i64 xs[i].2.1.2.2.1) ∧ w.cell? ⟨g, off + i * 7 + 5, none⟩ = some (.int .i64 xs[i].2.1.2.2.2) ∧ w.cell? ⟨g, off + i * 7 + 6, none⟩ = some (.int .i64 xs[i].2.2) := by
  obtain ⟨a', c', e1, _, h3⟩ := h
  obtain ⟨g, off, e2, hat⟩ := h3 (by omega)
  cases e1
  have q := fun j (hj : j < 7) (y : Value) (hy : (nl xs[i])[j]? = some y) => hat.cell i j hi hj hy
  exact ⟨g, off, e2, by simpa using q 0 (by omega) _ rfl, by simpa [Nat.add_assoc] using q 1 (by omega) _ rfl, by simpa [Nat.add_assoc] using q 2 (by omega) _ rfl, by simpa [Nat.add_assoc] using q 3 (by omega) _ rfl, by simpa [Nat.add_assoc] using q 4 (by omega) _ rfl, by simpa [Nat.add_assoc] using q 5 (by omega) _ rfl, by simpa [Nat.add_assoc] using q 6 (by omega) _ rfl⟩
theorem made_yes {w : World} {c : Cf} {now : Int} {xs : List En} {v : Value} (wc : Wc c) (hl : xs.length ≤ 2199023255488) (hv : RA w v xs) (hok : ∀ x ∈ xs, Ok x.1) (h1 : (ofP c now xs).2 = 0) : Calls Tryz.prog 9 #[.agg (wcs c now v)] w fun e w'' => ∃ m F a1 c1, e = .returned (.tuple #[PT m, mv c now (.slice a1 xs.length c1), .bool true]) ∧ Mq w'' m F c now xs ∧ Touch [] w w'' :=
  (made_ wc hl hv hok).mono fun e w'' ⟨pm, u, he, hrn, ht, hm⟩ => by
    obtain ⟨a1, c1, hu, _⟩ := id hrn
    subst hu
    rcases hm with ⟨q, _⟩ | ⟨_, m, F, rfl, mq, _⟩
    · exact absurd h1 q
    · exact ⟨m, F, a1, c1, by rw [he, decide_eq_true h1], mq, ht⟩
theorem made_no {w : World} {c : Cf} {now : Int} {xs : List En} {v : Value} (wc : Wc c) (hl : xs.length ≤ 2199023255488) (hv : RA w v xs) (hok : ∀ x ∈ xs, Ok x.1) (h1 : ¬ (ofP c now xs).2 = 0) : Calls Tryz.prog 9 #[.agg (wcs c now v)] w fun e w'' => ∃ a1 c1, e = .returned (.tuple #[.pointer none, mv c now (.slice a1 xs.length c1), .bool false]) ∧ Touch [] w w'' :=
  (made_ wc hl hv hok).mono fun e w'' ⟨pm, u, he, hrn, ht, hm⟩ => by
    obtain ⟨a1, c1, hu, _⟩ := id hrn
    subst hu
    rcases hm with ⟨_, q⟩ | ⟨q, _⟩
    · exact ⟨a1, c1, by rw [he, q, decide_eq_false h1], ht⟩
    · exact absurd q h1
end Go.Proofs.YtpefbmheblfbeaaGreat.Sn
