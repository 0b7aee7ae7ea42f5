/- What is done to both, an order and the document's: a bound is laid, a copy is taken; there are at most seventy thousand keys. -/
import Derived.Test.YtjcdloijodfpgaaOnu
import Derived.Test.YtjcdloijodfpgaaRsh
import Derived.Test.YtjcdloijodfpgaaCln
namespace Go.Proofs.Ytjcdloijodfpgaa
open Go.RowKit Go.Sort Go.Maps Go.ChangeMaps Go.WideMaps
set_option linter.unusedVariables false
set_option linter.unusedSimpArgs false
def gd (n : Int) : Bool := decide (0 ≤ n) && decide (n ≤ 65536)
def shM (most n : Int) : Int := if gd n then n else most
def shX (xs : List K) (n : Int) : List K := if gd n then xs.drop (ovr xs n) else xs
def shT (xs : List K) (n : Int) : List K := if gd n then xs.take (ovr xs n) else []
def shZ (n : Int) : Int := if gd n then 0 else 1
theorem gd_iff {n : Int} : gd n = true ↔ 0 ≤ n ∧ n ≤ 65536 := by
  unfold gd
  simp
theorem shrU (w : World) (o : Nat) (F : List Nat) (most n : Int) (xs : List K) (hl : xs.length ≤ 70000) (h : Oq w o F most xs) :
    Calls Try.prog 15 #[PT o, .int .i64 n] w fun e w' => ∃ a1 n1 c1, e = .returned (.tuple #[.slice a1 n1 c1, .int .i64 (shZ n)]) ∧ PK w' (.slice a1 n1 c1) (shT xs n) ∧ Ch w o F (shM most n) (shX xs n) w' := by
  unfold shM shX shT shZ
  by_cases hg : gd n = true
  · simp only [if_pos hg]
    obtain ⟨h0, h1⟩ := gd_iff.1 hg
    refine (shrink15_ok w o F most n xs h0 h1 hl h).mono ?_
    rintro e w' ⟨v, rfl, hr, hc⟩
    obtain ⟨a1, c1, rfl⟩ := own_form hr
    have e1 : (xs.take (ovr xs n)).length = ovr xs n := by rw [List.length_take]; unfold ovr; omega
    exact ⟨a1, _, c1, rfl, by unfold PK; rw [e1]; exact own_zero hr, hc⟩
  · simp only [if_neg hg]
    refine (shrink15_bad w o n (fun h => hg (gd_iff.2 h))).mono ?_
    rintro e w' ⟨rfl, rfl⟩
    exact ⟨none, 0, 0, rfl, World.ownsRow_nil _ _ _ _, F, h, Touch.refl _ _, Nf.refl _ _⟩
theorem rshU (w : World) (most n : Int) (a : Option Addr) (n0 c : Nat) (xs : List K) (hl : xs.length ≤ 70000) (h : RK w (.slice a n0 c) xs) :
    Calls Try.prog 26 #[rv most (.slice a n0 c), .int .i64 n] w fun e w' => ∃ a' n' c' a'' n'' c'', e = .returned (.tuple #[rv (shM most n) (.slice a' n' c'), .slice a'' n'' c'', .int .i64 (shZ n)]) ∧ RK w' (.slice a' n' c') (shX xs n) ∧ RK w' (.slice a'' n'' c'') (shT xs n) ∧ Touch [] w w' := by
  unfold shM shX shT shZ
  by_cases hg : gd n = true
  · simp only [if_pos hg]
    obtain ⟨h0, h1⟩ := gd_iff.1 hg
    refine (rshrinkO w most n (.slice a n0 c) xs h0 h1 hl h).mono ?_
    rintro e w' ⟨v', v'', rfl, r1, r2, t⟩
    obtain ⟨a1, c1, rfl⟩ := own_form r1
    obtain ⟨a2, c2, rfl⟩ := own_form r2
    exact ⟨a1, _, c1, a2, _, c2, rfl, r1, r2, t⟩
  · simp only [if_neg hg]
    refine (rshrink_bad w most n (.slice a n0 c) xs (fun h => hg (gd_iff.2 h)) h).mono ?_
    rintro e w' ⟨rfl, r, t⟩
    exact ⟨a, n0, c, none, 0, 0, rfl, r, RK.nil _, t⟩
theorem on_end' {w V W : World} {o : Nat} {F : List Nat} {most m0 kd nn : Int} {v v' : Value} {k : K} {ys : List K} (c : Ch w o F most ys V) (t : Touch [] V W) (hs : OnS w m0 kd nn v k W) (hr : RK W v' ys) (m2 : Int) :
    OnQ w o F most ys v' ((W.setCell ⟨w.heap.size + 1 + 1, 0, none⟩ (.int .i64 m2)).setCell ⟨w.heap.size + 1 + 1, 1, none⟩ v') := by
  obtain ⟨F', c1, c2, c3⟩ := c
  have tb : Touch [w.heap.size + 1 + 1] W ((W.setCell ⟨w.heap.size + 1 + 1, 0, none⟩ (.int .i64 m2)).setCell ⟨w.heap.size + 1 + 1, 1, none⟩ v') := ((Touch.refl _ _).setCell (by simp) _).setCell (by simp) _
  have c1' := c1.keep0 t
  refine ⟨F', c1'.keep tb (fun i hi hh => ?_), own_touch hr tb (fun g hg hh => ?_), (c2.trans' (t.mono (fun _ e => by cases e))).trans tb (fun i hi => by simp only [List.mem_singleton] at hi; exact Or.inr (by omega)), c3⟩
  · simp only [List.mem_singleton] at hh
    subst hh
    exact c1'.away hs.b2 (by decide) (by decide) hi
  · obtain ⟨cs, hcs⟩ := own_type hr hg
    simp only [List.mem_singleton] at hh
    rw [hh, hs.b2] at hcs
    simp at hcs
set_option maxHeartbeats 4000000 in
theorem one_shrink (w : World) (o : Nat) (F : List Nat) (most nn : Int) (v : Value) (xs : List K) (k : K) (hl : xs.length ≤ 70000) (h : Oq w o F most xs) (hr : RK w v xs) :
    Calls Try.prog 9 #[PT o, rv most v, av 3 nn k] w fun e w' => ∃ v', e = .returned (.tuple #[PT o, rv (shM most nn) v', .bool true]) ∧ OnQ w o F (shM most nn) (shX xs nn) v' w' := by
  obtain ⟨a, n, c, rfl⟩ : ∃ a n c, v = .slice a n c := by
    obtain ⟨a, c, h1⟩ := own_form hr
    exact ⟨a, _, c, h1⟩
  have hF := hid h.lt
  have S0 := hid (OnS.start w most 3 nn (.slice a n c) k)
  have T0 := hid (OnS.start_t w most 3 nn (.slice a n c) k)
  have HP := hid (shrU _ o F most nn xs hl (h.keep0 T0.out))
  have HV : Hid (∀ V, Ch _ o F (shM most nn) (shX xs nn) V → Ch w o F (shM most nn) (shX xs nn) V ∧ OnS w most 3 nn (.slice a n c) k V ∧ RK V (.slice a n c) xs) := fun V (hc : Ch (((w.alloc (.cells #[.int .i64 most, .slice a n c] 31)).alloc (.cells #[.int .i64 3, .int .i64 nn, .int .u16 k.1, .string k.2] 38)).alloc (.cells #[.int .i64 0, .slice none 0 0] 31)) o F (shM most nn) (shX xs nn) V) => by
    have h0 := h.keep0 T0.out
    refine ⟨hc.from0 T0.out, ?_, ?_⟩
    · obtain ⟨F', _, c2, _⟩ := hc
      exact S0.out.keep c2 (fun i hi => Or.inl (hF.out i hi))
    · obtain ⟨F', _, c2, _⟩ := hc
      exact rk_order' h0 c2 (hr.keep T0.out)
  have HU := hid (fun W hw => rshU W most nn a n c xs hl hw)
  have hT : Hid ((shT xs nn).length ≤ 80000) := by
    show _ ≤ _
    unfold shT
    split
    · rw [List.length_take]; omega
    · simp
  have HK := hid (fun W v1 v2 (p : PK W v1 (shT xs nn)) (q : RK W v2 (shT xs nn)) => keys27 W v1 v2 (shT xs nn) hT.out p q)
  clear h hr
  unfold PT rv av at *
  generalize shX xs nn = ys at *
  generalize shT xs nn = ts at *
  generalize shM most nn = m2 at *
  generalize shZ nn = z at *
  go_enter Try.func9, Try.ntmps9
  go_wp2_with (first
    | (go_at_call 15; refine HP.out.mono ?_; rintro e V ⟨a1, n1, c1, rfl, hp, hc⟩; obtain ⟨v1, v2, v3⟩ := HV.out V hc; have C1 := hid v1; have S1 := hid v2; have R1 := hid v3; have P1 := hid hp; obtain ⟨q0, q1⟩ := v2.m; obtain ⟨q2, q3, _, _⟩ := v2.a; clear hc v1 v2 v3 hp)
    | (go_at_call 26; refine (HU.out V R1.out).mono ?_; rintro e w2 ⟨a5, n5, c5, a6, n6, c6, rfl, r5, r6, t2⟩; have R5 := hid r5; have R6 := hid r6; have T2 := hid t2; clear r5 r6 t2 q0 q1 q2 q3))
  obtain ⟨W, eW⟩ : ∃ W, W = w2.alloc (.cells #[.int .i64 m2, .slice a5 n5 c5] 31) := ⟨_, rfl⟩
  have tW : Touch [] w2 W := by rw [eW]; exact (Touch.refl _ _).alloc _
  have h24 : W.heap[w2.heap.size]? = some (.cells #[.int .i64 m2, .slice a5 n5 c5] 31 (0, 0)) := by rw [eW]; exact heap_alloc_new _ _
  rw [← eW]
  have tV : Touch [] V W := T2.out.trans' tW
  have S5 := hid (S1.out.keep tV (fun _ e => by cases e))
  have lz := S1.out.sz
  have lz2 := T2.out.size
  have K5 := hid (HK.out W _ _ (own_touch P1.out tV (fun _ _ e => by cases e)) (R6.out.keep tW))
  have CE := hid (fun Z (t : Touch [] W Z) => on_end' C1.out (tV.trans' t) (S5.out.keep t (fun _ e => by cases e)) ((R5.out.keep tW).keep t) m2)
  generalize w2.heap.size = b24 at *
  have sA : ∀ w', Touch [w.heap.size + 1 + 1] W w' → w'.cell? ⟨b24, 0, none⟩ = some (.int .i64 m2) := fun w' t => by have := t.keep h24 (fun hh => by simp only [List.mem_singleton] at hh; omega); simp [World.cell?, this]
  have sB : ∀ w', Touch [w.heap.size + 1 + 1] W w' → w'.cell? ⟨b24, 1, none⟩ = some (.slice a5 n5 c5) := fun w' t => by have := t.keep h24 (fun hh => by simp only [List.mem_singleton] at hh; omega); simp [World.cell?, this]
  have K6 : Hid (∀ Y, Touch [] W Y → Calls Try.prog 27 #[.slice a1 n1 c1, .slice a6 n6 c6] Y fun e w' => e = .returned (.bool true) ∧ Touch [] Y w') := fun Y t => HK.out Y _ _ (own_touch P1.out (tV.trans' t) (fun _ _ e => by cases e)) (R6.out.keep (tW.trans' t))
  clear eW HP HV HU HK K5
  refine wp_region_H (S := (fun w' => Touch [w.heap.size + 1 + 1] W w')) (by kernel_rfl) ?_
  obtain ⟨Y0, eY0⟩ : ∃ Y, Y = W.drew := ⟨_, rfl⟩
  rw [← eY0]
  have hY0 : Touch [w.heap.size + 1 + 1] W Y0 := by rw [eY0]; exact (Touch.refl _ _).drew
  have k0 : Touch [] W Y0 := by rw [eY0]; exact (Touch.refl _ _).drew
  clear eY0
  refine wpH_take (i := 0) (v := .pointer (some ⟨o, 0, none⟩)) (some 121) rfl rfl (by kernel_rfl) (by kernel_rfl) (by kernel_rfl) (fun _ _ _ h => h) (Or.inl ⟨by rfl, fun w' hS => (by go_simp)⟩) hY0 ?_
  try simp only [Go.Act.put, List.setIfInBounds_toArray, List.set_cons_zero, List.set_cons_succ]
  refine wpH_take (i := 1) (v := .agg #[.int .i64 m2, .slice a5 n5 c5]) (some 122) rfl rfl (by kernel_rfl) (by kernel_rfl) (by kernel_rfl) (fun _ _ _ h => h) (Or.inl ⟨by rfl, fun w' hS => (by have z0 := sA _ hS; have z1 := sB _ hS; go_simp)⟩) hY0 ?_
  try simp only [Go.Act.put, List.setIfInBounds_toArray, List.set_cons_zero, List.set_cons_succ]
  refine wpH_take (i := 2) (v := .slice a1 n1 c1) (some 123) rfl rfl (by kernel_rfl) (by kernel_rfl) (by kernel_rfl) (fun _ _ _ h => h) (Or.inl ⟨by rfl, fun w' hS => (by go_simp)⟩) hY0 ?_
  try simp only [Go.Act.put, List.setIfInBounds_toArray, List.set_cons_zero, List.set_cons_succ]
  refine wpH_take (i := 3) (v := .slice a6 n6 c6) (some 124) rfl rfl (by kernel_rfl) (by kernel_rfl) (by kernel_rfl) (fun _ _ _ h => h) (Or.inl ⟨by rfl, fun w' hS => (by go_simp)⟩) hY0 ?_
  try simp only [Go.Act.put, List.setIfInBounds_toArray, List.set_cons_zero, List.set_cons_succ]
  refine wpH_ready (rs := [4]) (by kernel_rfl) (by simp) ?_
  refine AllH.cons (o := { dst := some 125, op := Op.call { callee := Callee.value (Operand.func 27), args := #[Operand.tmp 123, Operand.tmp 124], argTypes := #[51, 29] }, type := 4, pos := _, after := #[{ on := 2, ground := Ground.data }, { on := 3, ground := Ground.data }], guard := none }) rfl (fun K' hK => ?_) ?_
  · rw [if_pos (by rfl)]
    go_simp
    refine (K6.out _ k0).mono ?_
    rintro e Y1 ⟨rfl, gY1⟩
    have k1 := k0.trans' gY1
    have hY1 := hY0.trans' (gY1.mono (fun _ e => by cases e))
    refine hK.out _ _ hY1 ?_
    clear hK
    try simp only [Go.Act.put, List.setIfInBounds_toArray, List.set_cons_zero, List.set_cons_succ]
    refine wpH_take (i := 5) (v := .bool true) (some 126) rfl rfl (by kernel_rfl) (by kernel_rfl) (by kernel_rfl) (fun _ _ _ h => h) (Or.inl ⟨by rfl, fun w' hS => (by go_simp)⟩) hY1 ?_
    try simp only [Go.Act.put, List.setIfInBounds_toArray, List.set_cons_zero, List.set_cons_succ]
    refine wpH_take (i := 6) (v := .int .i64 z) (some 127) rfl rfl (by kernel_rfl) (by kernel_rfl) (by kernel_rfl) (fun _ _ _ h => h) (Or.inl ⟨by rfl, fun w' hS => (by go_simp)⟩) hY1 ?_
    try simp only [Go.Act.put, List.setIfInBounds_toArray, List.set_cons_zero, List.set_cons_succ]
    refine wpH_take (i := 7) (v := .int .i64 z) (some 128) rfl rfl (by kernel_rfl) (by kernel_rfl) (by kernel_rfl) (fun _ _ _ h => h) (Or.inl ⟨by rfl, fun w' hS => (by go_simp)⟩) hY1 ?_
    try simp only [Go.Act.put, List.setIfInBounds_toArray, List.set_cons_zero, List.set_cons_succ]
    refine wpH_take (i := 8) (v := .bool true) (some 129) rfl rfl (by kernel_rfl) (by kernel_rfl) (by kernel_rfl) (fun _ _ _ h => h) (Or.inl ⟨by rfl, fun w' hS => (by go_simp)⟩) hY1 ?_
    try simp only [Go.Act.put, List.setIfInBounds_toArray, List.set_cons_zero, List.set_cons_succ]
    refine wpH_take (i := 9) (v := .bool true) (some 130) rfl rfl (by kernel_rfl) (by kernel_rfl) (by kernel_rfl) (fun _ _ _ h => h) (Or.inl ⟨by rfl, fun w' hS => (by go_simp)⟩) hY1 ?_
    try simp only [Go.Act.put, List.setIfInBounds_toArray, List.set_cons_zero, List.set_cons_succ]
    refine wpH_take (i := 10) (v := .pointer (some ⟨o, 0, none⟩)) (some 6) rfl rfl (by kernel_rfl) (by kernel_rfl) (by kernel_rfl) (fun _ _ _ h => h) (Or.inl ⟨by rfl, fun w' hS => (by go_simp)⟩) hY1 ?_
    try simp only [Go.Act.put, List.setIfInBounds_toArray, List.set_cons_zero, List.set_cons_succ]
    refine wpH_ready (rs := [11]) (by kernel_rfl) (by simp) ?_
    refine AllH.cons (o := { dst := none, op := Op.store 31 (Operand.tmp 7) (Operand.tmp 122), type := 0, pos := _, after := #[{ on := 1, ground := Ground.data }, { on := 10, ground := Ground.chain }, { on := 0, ground := Ground.phase }, { on := 1, ground := Ground.phase }, { on := 2, ground := Ground.textOnly Departure.lateStores }, { on := 3, ground := Ground.textOnly Departure.lateStores }, { on := 4, ground := Ground.textOnly Departure.lateStoresUnsure }, { on := 5, ground := Ground.textOnly Departure.lateStores }, { on := 6, ground := Ground.textOnly Departure.lateStores }, { on := 7, ground := Ground.textOnly Departure.lateStores }, { on := 8, ground := Ground.textOnly Departure.lateStores }, { on := 9, ground := Ground.textOnly Departure.lateStores }, { on := 10, ground := Ground.phase }], guard := none }) rfl (fun K' hK => ?_) ?_
    · rw [if_pos (by rfl)]
      obtain ⟨e0, e1, e2, e3⟩ := (S5.out.keep k1 (fun _ e => by cases e)).r
      go_simp
      refine hK.out _ _ ((hY1.setCell (by simp) _).setCell (by simp) _) ?_
      clear hK
      try simp only [Go.Act.put, List.setIfInBounds_toArray, List.set_cons_zero, List.set_cons_succ]
      refine wpH_take (i := 12) (v := .bool true) (some 8) rfl rfl (by kernel_rfl) (by kernel_rfl) (by kernel_rfl) (fun _ _ _ h => h) (Or.inl ⟨by rfl, fun w' hS => (by go_simp)⟩) ((hY1.setCell (by simp) _).setCell (by simp) _) ?_
      try simp only [Go.Act.put, List.setIfInBounds_toArray, List.set_cons_zero, List.set_cons_succ]
      refine wpAnyH_done (by kernel_rfl) ?_ _
      have HE := hid (CE.out _ k1)
      go_wp2
      refine bodyPost_ret (v := .tuple #[.pointer (some ⟨o, 0, none⟩), .agg #[.int .i64 m2, .slice a5 n5 c5], .bool true]) (by simp [results, Try.results9, go_sem, e0, e1]) rfl ⟨_, rfl, ?_⟩
      exact HE.out
    exact AllH.nil
  exact AllH.nil
def kother : K := (0, ⟨#[111, 116, 104, 101, 114]⟩)
theorem ok_other : Ok kother := ⟨by decide, by simp [kother, ByteArray.size, maxLen]⟩
set_option maxHeartbeats 4000000 in
theorem one_clone (w : World) (o : Nat) (F : List Nat) (most kd nn : Int) (v : Value) (xs : List K) (k : K) (hl : xs.length ≤ 70000) (h0 : kd ≠ 0) (h1 : kd ≠ 1) (h2 : kd ≠ 2) (h3 : kd ≠ 3) (h : Oq w o F most xs) (hr : RK w v xs) :
    Calls Try.prog 9 #[PT o, rv most v, av kd nn k] w fun e w' => ∃ p, e = .returned (.tuple #[PT p, rv most v, .bool true]) ∧ OnQ w p F most xs v w' := by
  obtain ⟨a, n, c, rfl⟩ : ∃ a n c, v = .slice a n c := by
    obtain ⟨a, c, h1⟩ := own_form hr
    exact ⟨a, _, c, h1⟩
  have hF := hid h.lt
  have S0 := hid (OnS.start w most kd nn (.slice a n c) k)
  have T0 := hid (OnS.start_t w most kd nn (.slice a n c) k)
  have z0 : (kd == 0) = false := by simp [h0]
  have z1 : (kd == 1) = false := by simp [h1]
  have z2 : (kd == 2) = false := by simp [h2]
  have z3 : (kd == 3) = false := by simp [h3]
  obtain ⟨V, eV⟩ : ∃ V, V = ((w.alloc (.cells #[.int .i64 most, .slice a n c] 31)).alloc (.cells #[.int .i64 kd, .int .i64 nn, .int .u16 k.1, .string k.2] 38)).alloc (.cells #[.int .i64 0, .slice none 0 0] 31) := ⟨_, rfl⟩
  rw [← eV] at S0 T0
  have HP := hid (cloneO V o F most xs (by omega) (h.keep0 T0.out))
  have HQ : Hid (∀ w1, ClQ V most xs w1 → Calls Try.prog 11 #[PT o, kv kother] w1 fun e w2 => (∃ u, e = .returned u) ∧ OnS w most kd nn (.slice a n c) k w2 ∧ OnQ w V.heap.size F most xs (.slice a n c) w2) := fun w1 hc => by
    obtain ⟨G, g1, g2, g3⟩ := hc
    have h1 := h.keep0 (T0.out.trans' g3)
    refine (useU w1 o F most xs kother ok_other hl h1).mono ?_
    rintro e w2 ⟨rfl, F2, c1, c2, c3⟩
    have hz := T0.out.size
    have dis : ∀ i, i ∈ F → i < w.heap.size := hF.out
    refine ⟨⟨_, rfl⟩, (S0.out.keep g3 (fun _ e => by cases e)).keep c2 (fun i hi => Or.inl (dis i hi)), G, g1.keep c2 (fun i hi hh => by have := dis i hh; have := g2 i hi; omega), rk_order' h1 c2 (hr.keep (T0.out.trans' g3)), ((T0.out.trans' g3).mono (fun _ e => by cases e)).trans' c2, fun i hi => Or.inr (Nat.le_trans hz (g2 i hi))⟩
  subst eV
  clear h hr
  unfold PT kv rv av kother at *
  go_enter Try.func9, Try.ntmps9
  go_wp2_with (first
    | (go_at_call 22; refine HP.out.mono ?_; rintro e w1 ⟨rfl, hc⟩; have H1 := hid (HQ.out w1 hc); clear hc)
    | (go_at_call 11; refine H1.out.mono ?_; rintro e w2 ⟨⟨u, rfl⟩, hs, hq⟩; have S2 := hid hs; have Q2 := hid hq; clear hs hq))
  clear HP HQ H1 T0
  obtain ⟨m0, m1⟩ := S2.out.m
  obtain ⟨e0, e1, e2, e3⟩ := S2.out.r
  have lz := S2.out.sz
  have i1 : w.heap.size ≠ w.heap.size + 1 + 1 := by omega
  have HE : Hid (OnQ w ((((w.alloc (.cells #[.int .i64 most, .slice a n c] 31)).alloc (.cells #[.int .i64 kd, .int .i64 nn, .int .u16 k.1, .string k.2] 38)).alloc (.cells #[.int .i64 0, .slice none 0 0] 31)).heap.size) F most xs (.slice a n c) ((w2.setCell ⟨w.heap.size + 1 + 1, 0, none⟩ (.int .i64 most)).setCell ⟨w.heap.size + 1 + 1, 1, none⟩ (.slice a n c))) := by
    obtain ⟨F', q1, q2, q3, q4⟩ := Q2.out
    have tb : Touch [w.heap.size + 1 + 1] w2 ((w2.setCell ⟨w.heap.size + 1 + 1, 0, none⟩ (.int .i64 most)).setCell ⟨w.heap.size + 1 + 1, 1, none⟩ (.slice a n c)) := ((Touch.refl _ _).setCell (by simp) _).setCell (by simp) _
    refine ⟨F', q1.keep tb (fun i hi hh => ?_), own_touch q2 tb (fun g hg hh => ?_), q3.trans tb (fun i hi => by simp only [List.mem_singleton] at hi; exact Or.inr (by omega)), q4⟩
    · simp only [List.mem_singleton] at hh
      subst hh
      exact q1.away S2.out.b2 (by decide) (by decide) hi
    · obtain ⟨cs, hcs⟩ := own_type q2 hg
      simp only [List.mem_singleton] at hh
      rw [hh, S2.out.b2] at hcs
      simp at hcs
  clear Q2 S2 S0
  simp only [World.size_alloc] at HE
  go_wp2
  go_region
  all_goals
    go_wp2
    refine bodyPost_ret (v := .tuple #[.pointer (some ⟨w.heap.size + 1 + 1 + 1, 0, none⟩), .agg #[.int .i64 most, .slice a n c], .bool true]) (by simp [results, Try.results9, go_sem, e0, e1]) rfl ⟨w.heap.size + 1 + 1 + 1, rfl, ?_⟩
    obtain ⟨F', q1, q2, q3, q4⟩ := HE.out
    exact ⟨F', q1.keep0 ⟨rfl, rfl, rfl, Nat.le_refl _, fun _ _ _ => rfl⟩, own_keep q2 (fun _ _ => rfl), ⟨q3.os, q3.tape, q3.output, q3.size, q3.block⟩, q4⟩
end Go.Proofs.Ytjcdloijodfpgaa
