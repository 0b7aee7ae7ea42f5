/- The contracts of the document's Interest, IsCurrent and Current. -/
import Derived.Test.YtpihhlllembdeaaGreatDof
namespace Go.Proofs.YtpihhlllembdeaaGreat
open Go.RowKit Go.Maps Go.ChangeMaps
set_option linter.unusedVariables false
set_option linter.unusedSimpArgs false
theorem interest_ (w : World) (R : Rn) (S : St) (va : Option Addr) (n vc : Nat) (hn : n = S.who.length) (hl : n ≤ 3000000000000) (hE : S.ended = false) :
    Calls Tryz.prog 69 #[dv8 ⟨R, S, .slice va n vc⟩] w fun e w' => e = .returned (.int .i64 (inter S)) ∧ Touch [] w w' := by
  unfold inter
  rw [hE, ← hn]
  have hwr : IntKind.i64.wrap ((n : Int) + 1) = (n : Int) + 1 := by rw [IntKind.wrap_i64]; omega
  unfold dv8
  simp only [Bool.not_false, Bool.and_true]
  cases hk : S.kept with
  | true =>
    clear hn hl hE
    go_enter Tryz.func69, Tryz.ntmps69
    go_wp2
    go_ret
    exact ⟨by simp, (Touch.refl _ _).alloc _⟩
  | false =>
    clear hn hl hE hwr
    go_enter Tryz.func69, Tryz.ntmps69
    go_wp2
    go_ret
    exact ⟨by simp, (Touch.refl _ _).alloc _⟩
def isC (gs : List (K × Int)) (R : Rn) : Bool := decide (R.gen = ofL gs (kOf R))
set_option maxHeartbeats 2000000 in
set_option maxRecDepth 100000 in
theorem isCur_ (w : World) (fl bg : Int) (la ga va : Option Addr) (ln lc n gc vn vc : Nat) (gs : List (K × Int)) (R : Rn) (S : St) (hn : n = gs.length) (hl : n ≤ 3000000000000) (h : w.ownsRow 0 122 3 (.slice ga n gc) n (gs.flatMap row3)) :
    Calls Tryz.prog 29 #[.agg #[.int .i64 fl, .int .i64 bg, .slice la ln lc, .slice ga n gc], dv8 ⟨R, S, .slice va vn vc⟩] w fun e w' => e = .returned (.bool (isC gs R)) ∧ Touch [] w w' := by
  obtain ⟨V, hV⟩ : ∃ V, V = (w.alloc (.cells #[.int .i64 fl, .int .i64 bg, .slice la ln lc, .slice ga n gc] 31)).alloc (bxE ⟨R, S, .slice va vn vc⟩) := ⟨_, rfl⟩
  have TV : Touch [] w V := by rw [hV]; exact ((Touch.refl _ _).alloc _).alloc _
  have hbE : V.heap[w.heap.size + 1]? = some (.cells #[.int .i64 R.run, .int .i64 R.gen, .int .u16 R.sp, .string R.nm, .bool R.rf, .bool S.kept, .bool S.canc, .slice va vn vc] 78 (0, 0)) := by
    rw [hV]
    have := heap_alloc_new (w.alloc (.cells #[.int .i64 fl, .int .i64 bg, .slice la ln lc, .slice ga n gc] 31)) (bxE ⟨R, S, .slice va vn vc⟩)
    rwa [World.size_alloc] at this
  have hbT : V.heap[w.heap.size]? = some (.cells #[.int .i64 fl, .int .i64 bg, .slice la ln lc, .slice ga n gc] 31 (0, 0)) := by rw [hV]; exact (Below.heap_alloc _ _ _ (by simp)).trans (heap_alloc_new w _)
  have HO : Hid (∀ w', Touch [] V w' → Calls Tryz.prog 32 #[.agg #[.int .i64 fl, .int .i64 bg, .slice la ln lc, .slice ga n gc], kv (kOf R)] w' fun e w2 => e = .returned (.int .i64 (ofL gs (kOf R))) ∧ Touch [] V w2) := fun w' X => (of_ w' fl bg la ga ln lc n gc gs (kOf R) hn hl (own_touch h (TV.trans' X) (fun _ _ e => by cases e))).mono (fun e w2 hh => ⟨hh.1, X.trans' hh.2⟩)
  have E1 : ∀ w', Touch [] V w' → w'.cell? ⟨w.heap.size + 1, 1, none⟩ = some (.int .i64 R.gen) := fun w' X => cell_at (X.keep hbE (by simp)) rfl
  have E2 : ∀ w', Touch [] V w' → w'.cell? ⟨w.heap.size + 1, 2, none⟩ = some (.int .u16 R.sp) := fun w' X => cell_at (X.keep hbE (by simp)) rfl
  have E3 : ∀ w', Touch [] V w' → w'.cell? ⟨w.heap.size + 1, 3, none⟩ = some (.string R.nm) := fun w' X => cell_at (X.keep hbE (by simp)) rfl
  have U0 : ∀ w', Touch [] V w' → w'.cell? ⟨w.heap.size, 0, none⟩ = some (.int .i64 fl) := fun w' X => cell_at (X.keep hbT (by simp)) rfl
  have U1 : ∀ w', Touch [] V w' → w'.cell? ⟨w.heap.size, 1, none⟩ = some (.int .i64 bg) := fun w' X => cell_at (X.keep hbT (by simp)) rfl
  have U2 : ∀ w', Touch [] V w' → w'.cell? ⟨w.heap.size, 2, none⟩ = some (.slice la ln lc) := fun w' X => cell_at (X.keep hbT (by simp)) rfl
  have U3 : ∀ w', Touch [] V w' → w'.cell? ⟨w.heap.size, 3, none⟩ = some (.slice ga n gc) := fun w' X => cell_at (X.keep hbT (by simp)) rfl
  have hq : (R.gen == ofL gs (kOf R)) = isC gs R := Bool.beq_eq_decide_eq _ _
  have HT := hid TV
  clear hn hl h hbE hbT TV
  unfold kv kOf at HO
  unfold kOf at hq
  generalize isC gs R = B at *
  generalize ofL gs (R.sp, R.nm) = og at *
  unfold bxE at hV
  unfold dv8
  simp only at hV ⊢
  go_enter Tryz.func29, Tryz.ntmps29
  go_upto_region 1 with fail
  rw [← hV]
  clear hV
  have k0 : Touch [] V V.drew := (Touch.refl _ _).drew
  refine wp_region_H (S := fun w' => Touch [] V w') (by kernel_rfl) ?_
  refine wpH_take (i := 0) (v := (.pointer (some ⟨w.heap.size + 1, 1, none⟩))) (some 5) rfl rfl (by kernel_rfl) (by kernel_rfl) (by kernel_rfl) (fun _ _ _ h => h) (Or.inl ⟨by rfl, fun w' hS => (by go_simp)⟩) k0 ?_
  try simp only [Go.Act.put, List.setIfInBounds_toArray, List.set_cons_zero, List.set_cons_succ]
  refine wpH_take (i := 1) (v := (.int .i64 R.gen)) (some 6) rfl rfl (by kernel_rfl) (by kernel_rfl) (by kernel_rfl) (fun _ _ _ h => h) (Or.inl ⟨by rfl, fun w' hS => (by have z0 := E1 _ hS; go_simp)⟩) k0 ?_
  try simp only [Go.Act.put, List.setIfInBounds_toArray, List.set_cons_zero, List.set_cons_succ]
  refine wpH_take (i := 2) (v := (.agg #[.int .i64 fl, .int .i64 bg, .slice la ln lc, .slice ga n gc])) (some 7) rfl rfl (by kernel_rfl) (by kernel_rfl) (by kernel_rfl) (fun _ _ _ h => h) (Or.inl ⟨by rfl, fun w' hS => (by have z0 := U0 _ hS; have z1 := U1 _ hS; have z2 := U2 _ hS; have z3 := U3 _ hS; go_simp)⟩) k0 ?_
  try simp only [Go.Act.put, List.setIfInBounds_toArray, List.set_cons_zero, List.set_cons_succ]
  refine wpH_take (i := 3) (v := (.pointer (some ⟨w.heap.size + 1, 2, none⟩))) (some 8) rfl rfl (by kernel_rfl) (by kernel_rfl) (by kernel_rfl) (fun _ _ _ h => h) (Or.inl ⟨by rfl, fun w' hS => (by go_simp)⟩) k0 ?_
  try simp only [Go.Act.put, List.setIfInBounds_toArray, List.set_cons_zero, List.set_cons_succ]
  refine wpH_take (i := 4) (v := (.agg #[.int .u16 R.sp, .string R.nm])) (some 9) rfl rfl (by kernel_rfl) (by kernel_rfl) (by kernel_rfl) (fun _ _ _ h => h) (Or.inl ⟨by rfl, fun w' hS => (by have z0 := E2 _ hS; have z1 := E3 _ hS; go_simp)⟩) k0 ?_
  try simp only [Go.Act.put, List.setIfInBounds_toArray, List.set_cons_zero, List.set_cons_succ]
  refine wpH_call (i := 5) (o := { dst := some 10, op := Op.call { callee := Callee.value (Operand.func 32), args := #[Operand.tmp 7, Operand.tmp 9], argTypes := #[31, 68] }, type := 3, pos := _, after := #[{ on := 2, ground := Ground.data }, { on := 4, ground := Ground.data }], guard := none }) (by kernel_rfl) rfl (fun K' hK => ?_)
  rw [if_pos (by rfl)]
  go_simp
  refine (HO.out _ k0).mono ?_
  rintro e' w2 ⟨rfl, kO⟩
  refine hK.out _ _ kO ?_
  clear hK
  try simp only [Go.Act.put, List.setIfInBounds_toArray, List.set_cons_zero, List.set_cons_succ]
  refine wpH_take (i := 6) (v := (.bool B)) (some 11) rfl rfl (by kernel_rfl) (by kernel_rfl) (by kernel_rfl) (fun _ _ _ h => h) (Or.inl ⟨by rfl, fun w' hS => (by go_simp)⟩) kO ?_
  try simp only [Go.Act.put, List.setIfInBounds_toArray, List.set_cons_zero, List.set_cons_succ]
  refine wpH_take (i := 7) (v := (.bool B)) (some 4) rfl rfl (by kernel_rfl) (by kernel_rfl) (by kernel_rfl) (fun _ _ _ h => h) (Or.inl ⟨by rfl, fun w' hS => (by go_simp)⟩) kO ?_
  try simp only [Go.Act.put, List.setIfInBounds_toArray, List.set_cons_zero, List.set_cons_succ]
  refine wpAnyH_done (by kernel_rfl) ?_ _
  go_wp2
  go_ret
  exact ⟨rfl, HT.out.trans' kO⟩
theorem posC_neg {g : K → Int} {l : List (Rn × St)} {k : K} (h : ∀ p ∈ l, ¬ (kOf p.1 = k ∧ p.1.gen = g k)) : posC g l k = -1 := by
  rcases posC_lt (g := g) (l := l) (k := k) with ⟨h1, _⟩ | ⟨i, p, h1, h2, h3, h4⟩
  · exact h1
  · exact absurd ⟨h3, h4⟩ (h p (List.mem_of_getElem? h2))
theorem posC_at {g : K → Int} {l : List (Rn × St)} {k : K} {i : Nat} {p : Rn × St} (hi : l[i]? = some p) (hp : kOf p.1 = k ∧ p.1.gen = g k) (hb : ∀ j q, j < i → l[j]? = some q → ¬ (kOf q.1 = k ∧ q.1.gen = g k)) : posC g l k = (i : Int) := by
  induction l generalizing i with
  | nil => simp at hi
  | cons x r ih =>
    unfold posC
    cases i with
    | zero => simp at hi; subst hi; simp [hp]
    | succ i =>
      simp at hi
      rw [if_neg (hb 0 x (by omega) rfl), ih hi (fun j q hj hq => hb (j + 1) q (by omega) (by simpa using hq)), if_neg (by omega)]
      omega
set_option maxHeartbeats 4000000 in
set_option maxRecDepth 100000 in
theorem current_ (w : World) (fl bg : Int) (la ga : Option Addr) (n lc gn gc : Nat) (ds : List De) (gs : List (K × Int)) (k : K) (hn : n = ds.length) (hl : n ≤ 3000000000000) (hgn : gn = gs.length) (hgl : gn ≤ 3000000000000) (h : w.ownsRow 0 78 8 (.slice la n lc) n (ds.flatMap row8)) (h2 : w.ownsRow 0 122 3 (.slice ga gn gc) gn (gs.flatMap row3)) (hv : ∀ d ∈ ds, ∃ a m c, d.v = .slice a m c) :
    Calls Tryz.prog 30 #[.agg #[.int .i64 fl, .int .i64 bg, .slice la n lc, .slice ga gn gc], kv k] w fun e w' => e = .returned (.int .i64 (posC (ofL gs) (desOf ds) k)) ∧ Touch [] w w' := by
  obtain ⟨V, hV⟩ : ∃ V, V = (w.alloc (.cells #[.int .i64 fl, .int .i64 bg, .slice la n lc, .slice ga gn gc] 31)).alloc (bxRK k) := ⟨_, rfl⟩
  have TV : Hid (Touch [] w V) := by rw [hV]; exact ((Touch.refl _ _).alloc _).alloc _
  have hbK : V.heap[w.heap.size + 1]? = some (.cells #[.int .u16 k.1, .string k.2] 68 (0, 0)) := by
    rw [hV]
    have := heap_alloc_new (w.alloc (.cells #[.int .i64 fl, .int .i64 bg, .slice la n lc, .slice ga gn gc] 31)) (bxRK k)
    rwa [World.size_alloc] at this
  have hbT : V.heap[w.heap.size]? = some (.cells #[.int .i64 fl, .int .i64 bg, .slice la n lc, .slice ga gn gc] 31 (0, 0)) := by rw [hV]; exact (Below.heap_alloc _ _ _ (by simp)).trans (heap_alloc_new w _)
  have HB : Hid (∀ w', Touch [] V w' → (w'.cell? ⟨w.heap.size + 1, 0, none⟩ = some (.int .u16 k.1) ∧ w'.cell? ⟨w.heap.size + 1, 1, none⟩ = some (.string k.2)) ∧ w'.cell? ⟨w.heap.size, 0, none⟩ = some (.int .i64 fl) ∧ w'.cell? ⟨w.heap.size, 1, none⟩ = some (.int .i64 bg) ∧ w'.cell? ⟨w.heap.size, 2, none⟩ = some (.slice la n lc) ∧ w'.cell? ⟨w.heap.size, 3, none⟩ = some (.slice ga gn gc)) := fun w' t =>
    ⟨⟨cell_at (t.keep hbK (by simp)) rfl, cell_at (t.keep hbK (by simp)) rfl⟩, cell_at (t.keep hbT (by simp)) rfl, cell_at (t.keep hbT (by simp)) rfl, cell_at (t.keep hbT (by simp)) rfl, cell_at (t.keep hbT (by simp)) rfl⟩
  have hg : V.cell? ⟨w.heap.size, 2, none⟩ = some (.slice la n lc) := cell_at hbT rfl
  have HG : Hid (∀ w', Touch [] V w' → w'.ownsRow 0 78 8 (.slice la n lc) n (ds.flatMap row8)) := fun w' t => own_touch h (TV.out.trans' t) (fun _ _ e => by cases e)
  have HI : Hid (∀ w' R S va vn vc, Touch [] V w' → Calls Tryz.prog 29 #[.agg #[.int .i64 fl, .int .i64 bg, .slice la n lc, .slice ga gn gc], dv8 ⟨R, S, .slice va vn vc⟩] w' fun e w2 => e = .returned (.bool (isC gs R)) ∧ Touch [] V w2) := fun w' R S va vn vc X => (isCur_ w' fl bg la ga va n lc gn gc vn vc gs R S hgn hgl (own_touch h2 (TV.out.trans' X) (fun _ _ e => by cases e))).mono (fun e w2 hh => ⟨hh.1, X.trans' hh.2⟩)
  have HN := hid hn
  have HV := hid hv
  have zn : (n : Int) ≤ 3000000000000 := by omega
  clear hn h hl hv h2 hgn hgl hbK hbT
  unfold bxRK at hV
  unfold dv8 at HI
  simp only at HI
  unfold kv
  go_enter Tryz.func30, Tryz.ntmps30
  go_upto_region 1 with fail
  rw [← hV]
  clear hV
  go_wp2
  go_loopw [10] (fun s10 wr => ∃ (i : Nat), s10 = .int .i64 (i : Int) ∧ i ≤ n ∧ Hid (Touch [] V wr ∧ ∀ j d, j < i → ds[j]? = some d → ¬ (kOf d.R = k ∧ d.R.gen = ofL gs k))) (fun s _ => n - (intOf s).toNat)
  case atStart => exact ⟨0, rfl, Nat.zero_le _, Touch.refl _ _, fun j x hj => by omega⟩
  case round =>
    obtain ⟨i, rfl, hi, HT⟩ := hrel
    by_cases hlt : i < n
    · have zi : (i : Int) < (n : Int) := by omega
      obtain ⟨d, hx⟩ : ∃ d, ds[i]? = some d := ⟨_, List.getElem?_eq_getElem (by have := HN.out; omega)⟩
      have ho := HG.out _ HT.out.1
      obtain ⟨g, c', e, _, _⟩ := own_some ho (by omega)
      cases e
      obtain ⟨r0, r1, r2, r3, r4, r5, r6, r7⟩ := lr_cells ho hx
      obtain ⟨va, vm, vc, ev⟩ := HV.out d (List.mem_of_getElem? hx)
      rw [ev] at r7
      have HNi := hid (And.intro hi hlt)
      have hmap : ∀ (j : Nat) (q : Rn × St), (desOf ds)[j]? = some q → ∃ d' : De, ds[j]? = some d' ∧ q.1 = d'.R := fun j q hq => by
        unfold desOf at hq
        rw [List.getElem?_map] at hq
        obtain ⟨d', h1, h2⟩ := Option.map_eq_some_iff.1 hq
        exact ⟨d', h1, by rw [← h2]⟩
      have HPos : Hid (kOf d.R = k ∧ d.R.gen = ofL gs k → posC (ofL gs) (desOf ds) k = (i : Int)) := fun hk => posC_at (p := (d.R, d.S)) (by unfold desOf; rw [List.getElem?_map, hx]; rfl) hk (fun j q hj hq => by
          obtain ⟨d', h1, h2⟩ := hmap j q hq
          rw [h2]
          exact HT.out.2 j d' hj h1)
      have HNeg : Hid (¬ (kOf d.R = k ∧ d.R.gen = ofL gs k) → ∀ j y, j < i + 1 → ds[j]? = some y → ¬ (kOf y.R = k ∧ y.R.gen = ofL gs k)) := fun hk j y hj hy => by
          rcases Nat.lt_or_ge j i with e | e
          · exact HT.out.2 j y e hy
          · obtain rfl : j = i := by omega
            rw [hx] at hy
            cases hy
            exact hk
      have tB : Touch [] V (wr.alloc (.cells #[.int .i64 d.R.run, .int .i64 d.R.gen, .int .u16 d.R.sp, .string d.R.nm, .bool d.R.rf, .bool d.S.kept, .bool d.S.canc, .slice va vm vc] 78)) := HT.out.1.alloc _
      obtain ⟨⟨b0, b1⟩, b2, b3, b4, b5⟩ := HB.out _ tB
      have eq := fun w => eqK w (kOf d.R) k
      have HTB := hid tB
      have HIs := hid (HI.out _ d.R d.S va vm vc tB)
      clear ho hx ev hmap tB
      unfold kOf at eq
      by_cases hk : kOf d.R = k
      · rw [show decide ((d.R.sp, d.R.nm) = k) = true from decide_eq_true hk] at eq
        by_cases hc : d.R.gen = ofL gs k
        · rw [show isC gs d.R = true from decide_eq_true (by rw [hk]; exact hc)] at HIs
          have HP := hid (HPos.out ⟨hk, hc⟩)
          clear hk hc HPos HNeg
          go_wp2_with (go_at_call 29; refine HIs.out.mono ?_; rintro e w5 ⟨rfl, t5⟩; have T5 := hid t5; clear t5)
          go_ret
          exact ⟨by (rw [HP.out]; rfl), TV.out.trans' T5.out⟩
        · rw [show isC gs d.R = false from decide_eq_false (by rw [hk]; exact hc)] at HIs
          have HP := hid (HNeg.out (fun e => hc e.2))
          clear hk hc HPos HNeg
          go_wp2_with (go_at_call 29; refine HIs.out.mono ?_; rintro e w5 ⟨rfl, t5⟩; have T5 := hid t5; clear t5)
          go_roundw
          case rel => exact ⟨i + 1, by go_num, by have := HNi.out; omega, T5.out, HP.out⟩
          case measure => simp [intOf]; have := HNi.out; omega
      · rw [show decide ((d.R.sp, d.R.nm) = k) = false from decide_eq_false hk] at eq
        have HP := hid (HNeg.out (fun e => hk e.1))
        clear hk HPos HNeg HIs
        go_wp2
        go_roundw
        case rel => exact ⟨i + 1, by go_num, by have := HNi.out; omega, HTB.out, HP.out⟩
        case measure => simp [intOf]; have := HNi.out; omega
    · have zi : (n : Int) ≤ (i : Int) := by omega
      have HP : Hid (posC (ofL gs) (desOf ds) k = -1) := hid (posC_neg (fun q hq => by
        obtain ⟨d, hd, rfl⟩ := List.mem_map.1 hq
        obtain ⟨j, hj, e⟩ := List.mem_iff_getElem.1 hd
        exact HT.out.2 j d (by have := HN.out; omega) (by rw [List.getElem?_eq_getElem hj, e])))
      go_wp2
      go_ret
      exact ⟨by (rw [HP.out]; rfl), TV.out.trans' HT.out.1⟩
end Go.Proofs.YtpihhlllembdeaaGreat
