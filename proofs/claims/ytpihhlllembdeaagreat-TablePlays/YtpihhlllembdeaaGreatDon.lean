/- The contracts of the document's on and with: a key's generation goes on, a run stands as it is said. -/
import Derived.Test.YtpihhlllembdeaaGreatDcu
namespace Go.Proofs.YtpihhlllembdeaaGreat
open Go.RowKit Go.Maps Go.ChangeMaps
set_option linter.unusedVariables false
set_option linter.unusedSimpArgs false
theorem infoG : (Tryz.prog.info? 122).map (fun i => (i.zero, i.size, i.bytes)) = some (some (.agg #[.int .u16 0, .string ⟨#[]⟩, .int .i64 0]), 3, 32) := by kernel_rfl
theorem infoR : (Tryz.prog.info? 78).map (fun i => (i.zero, i.size, i.bytes)) = some (some (.agg #[.int .i64 0, .int .i64 0, .int .u16 0, .string ⟨#[]⟩, .bool false, .bool false, .bool false, .slice none 0 0]), 8, 72) := by kernel_rfl
/-- One element in a block of its own, as a slice. -/
theorem Rs.new (w : World) (cs : Array Value) (t k : Nat) (hs : cs.size = k) : Rs t k (w.alloc (.cells cs t)) (.slice (some ⟨w.heap.size, 0, none⟩) 1 1) 1 cs.toList := by
  refine ⟨by simp [hs], _, _, rfl, Nat.le_refl _, fun e => (by cases e), fun _ => ⟨_, 0, rfl, cs, _, heap_alloc_new w _, fun j u hu => ?_⟩⟩
  rw [Nat.zero_add, ← Array.getElem?_toList]
  exact hu
theorem own_new (w : World) (B : Nat) (cs : Array Value) (t k : Nat) (hs : cs.size = k) (hB : B ≤ w.heap.size) : (w.alloc (.cells cs t)).ownsRow B t k (.slice (some ⟨w.heap.size, 0, none⟩) 1 1) 1 cs.toList := by
  refine own_of_cells (heap_alloc_new w _) hB (Nat.le_refl _) (by unfold maxLen; omega) (by omega) (by simp [hs]) (fun p v hp => ?_)
  rw [Array.getElem?_toList] at hp
  exact cell_at (heap_alloc_new w _) hp
/-- Behind a store into a table's box, the table laid into the result. -/
theorem fin4 {wr : World} {B : Nat} {t0 t2 : TypeId} {cs : Array Value} {z0 z1 z2 z3 : Value} (hb : wr.heap[B]? = some (.cells cs t0 (0, 0))) (hz : wr.heap[B + 1 + 1]? = some (.cells #[z0, z1, z2, z3] t2 (0, 0))) (j : Nat) (v0 v1 v2 v3 p : Value) :
    (((((wr.setCell ⟨B, j, none⟩ p).setCell ⟨B + 1 + 1, 0, none⟩ v0).setCell ⟨B + 1 + 1, 1, none⟩ v1).setCell ⟨B + 1 + 1, 2, none⟩ v2).setCell ⟨B + 1 + 1, 3, none⟩ v3).heap[B + 1 + 1]? = some (.cells #[v0, v1, v2, v3] t2 (0, 0)) ∧ Touch [B, B + 1 + 1] wr (((((wr.setCell ⟨B, j, none⟩ p).setCell ⟨B + 1 + 1, 0, none⟩ v0).setCell ⟨B + 1 + 1, 1, none⟩ v1).setCell ⟨B + 1 + 1, 2, none⟩ v2).setCell ⟨B + 1 + 1, 3, none⟩ v3) := by
  have h1 : (wr.setCell ⟨B, j, none⟩ p).heap[B + 1 + 1]? = some (.cells #[z0, z1, z2, z3] t2 (0, 0)) := (Below.heap_setCell _ _ _ _ (by simp; omega)).trans hz
  refine ⟨(bset (bset (bset (bset h1 _) _) _) _).trans rfl, ?_⟩
  exact (((((Touch.refl _ _).setCell (Or.inl (by simp)) _).setCell (Or.inl (by simp)) _).setCell (Or.inl (by simp)) _).setCell (Or.inl (by simp)) _).setCell (Or.inl (by simp)) _
theorem finZ {wr : World} {Z : Nat} {t2 : TypeId} {z0 z1 z2 z3 : Value} (hz : wr.heap[Z]? = some (.cells #[z0, z1, z2, z3] t2 (0, 0))) (v0 v1 v2 v3 : Value) :
    ((((wr.setCell ⟨Z, 0, none⟩ v0).setCell ⟨Z, 1, none⟩ v1).setCell ⟨Z, 2, none⟩ v2).setCell ⟨Z, 3, none⟩ v3).heap[Z]? = some (.cells #[v0, v1, v2, v3] t2 (0, 0)) ∧ Touch [Z] wr ((((wr.setCell ⟨Z, 0, none⟩ v0).setCell ⟨Z, 1, none⟩ v1).setCell ⟨Z, 2, none⟩ v2).setCell ⟨Z, 3, none⟩ v3) :=
  ⟨(bset (bset (bset (bset hz _) _) _) _).trans rfl, ((((Touch.refl _ _).setCell (Or.inl (by simp)) _).setCell (Or.inl (by simp)) _).setCell (Or.inl (by simp)) _).setCell (Or.inl (by simp)) _⟩
def onP (gs : List (K × Int)) (k : K) (i : Nat) : List (K × Int) := (k, ofL gs k + 1) :: (gs.take i).filter (fun x => decide (x.1 ≠ k))
theorem onP_all (gs : List (K × Int)) (k : K) {n : Nat} (hn : n = gs.length) : onP gs k n = onL gs k := by unfold onP onL; rw [hn, List.take_length]
theorem onP_skip {gs : List (K × Int)} {k : K} {i : Nat} {x : K × Int} (hx : gs[i]? = some x) (h : x.1 = k) : onP gs k (i + 1) = onP gs k i := by
  obtain ⟨hi, e⟩ := List.getElem?_eq_some_iff.1 hx
  unfold onP
  rw [List.take_succ_eq_append_getElem hi, e, List.filter_append]
  simp [h]
theorem onP_add {gs : List (K × Int)} {k : K} {i : Nat} {x : K × Int} (hx : gs[i]? = some x) (h : x.1 ≠ k) : onP gs k (i + 1) = onP gs k i ++ [x] := by
  obtain ⟨hi, e⟩ := List.getElem?_eq_some_iff.1 hx
  unfold onP
  rw [List.take_succ_eq_append_getElem hi, e, List.filter_append, List.cons_append]
  simp [h]
theorem onP_len (gs : List (K × Int)) (k : K) {i n : Nat} (hi : i ≤ n) : (onP gs k i).length ≤ n + 1 := by
  unfold onP
  have := List.length_filter_le (fun x : K × Int => decide (x.1 ≠ k)) (gs.take i)
  simp only [List.length_cons, List.length_take] at *
  omega
set_option maxHeartbeats 4000000 in
set_option maxRecDepth 100000 in
theorem on_ (w : World) (fl bg : Int) (la ga : Option Addr) (ln lc n gc : Nat) (gs : List (K × Int)) (k : K) (hn : n = gs.length) (hl : n ≤ 3000000000000) (h0 : 0 ≤ ofL gs k) (h1 : ofL gs k ≤ 3000000000000) (h : w.ownsRow 0 122 3 (.slice ga n gc) n (gs.flatMap row3)) :
    Calls Tryz.prog 51 #[.agg #[.int .i64 fl, .int .i64 bg, .slice la ln lc, .slice ga n gc], kv k] w fun e w' => ∃ a c, e = .returned (.agg #[.int .i64 fl, .int .i64 bg, .slice la ln lc, .slice a (onL gs k).length c]) ∧ w'.ownsRow w.heap.size 122 3 (.slice a (onL gs k).length c) (onL gs k).length ((onL gs k).flatMap row3) ∧ Touch [] w w' := by
  obtain ⟨V, hV⟩ : ∃ V, V = ((w.alloc (.cells #[.int .i64 fl, .int .i64 bg, .slice la ln lc, .slice ga n gc] 31)).alloc (bxRK k)).alloc (.cells #[.int .i64 0, .int .i64 0, .slice none 0 0, .slice none 0 0] 31) := ⟨_, rfl⟩
  have TV : Touch [] w V := by rw [hV]; exact (((Touch.refl _ _).alloc _).alloc _).alloc _
  have hsz : V.heap.size = w.heap.size + 3 := by rw [hV]; simp
  have hbT : V.heap[w.heap.size]? = some (.cells #[.int .i64 fl, .int .i64 bg, .slice la ln lc, .slice ga n gc] 31 (0, 0)) := by rw [hV]; exact (Below.heap_alloc _ _ _ (by simp; omega)).trans ((Below.heap_alloc _ _ _ (by simp)).trans (heap_alloc_new w _))
  have hbK : V.heap[w.heap.size + 1]? = some (.cells #[.int .u16 k.1, .string k.2] 68 (0, 0)) := by
    rw [hV]
    have := heap_alloc_new (w.alloc (.cells #[.int .i64 fl, .int .i64 bg, .slice la ln lc, .slice ga n gc] 31)) (bxRK k)
    rw [World.size_alloc] at this
    exact (Below.heap_alloc _ _ _ (by simp)).trans this
  have hbZ : V.heap[w.heap.size + 2]? = some (.cells #[.int .i64 0, .int .i64 0, .slice none 0 0, .slice none 0 0] 31 (0, 0)) := by
    rw [hV]
    have := heap_alloc_new ((w.alloc (.cells #[.int .i64 fl, .int .i64 bg, .slice la ln lc, .slice ga n gc] 31)).alloc (bxRK k)) (.cells #[.int .i64 0, .int .i64 0, .slice none 0 0, .slice none 0 0] 31)
    rwa [World.size_alloc, World.size_alloc] at this
  have HO : Hid (∀ w', Touch [] V w' → Calls Tryz.prog 32 #[.agg #[.int .i64 fl, .int .i64 bg, .slice la ln lc, .slice ga n gc], kv k] w' fun e w2 => e = .returned (.int .i64 (ofL gs k)) ∧ Touch [] V w2) := fun w' X => (of_ w' fl bg la ga ln lc n gc gs k hn hl (own_touch h (TV.trans' X) (fun _ _ e => by cases e))).mono (fun e w2 hh => ⟨hh.1, X.trans' hh.2⟩)
  have E1 : ∀ w', Touch [] V w' → w'.cell? ⟨w.heap.size + 1, 0, none⟩ = some (.int .u16 k.1) := fun w' X => cell_at (X.keep hbK (by simp)) rfl
  have E2 : ∀ w', Touch [] V w' → w'.cell? ⟨w.heap.size + 1, 1, none⟩ = some (.string k.2) := fun w' X => cell_at (X.keep hbK (by simp)) rfl
  have U0 : ∀ w', Touch [] V w' → w'.cell? ⟨w.heap.size, 0, none⟩ = some (.int .i64 fl) := fun w' X => cell_at (X.keep hbT (by simp)) rfl
  have U1 : ∀ w', Touch [] V w' → w'.cell? ⟨w.heap.size, 1, none⟩ = some (.int .i64 bg) := fun w' X => cell_at (X.keep hbT (by simp)) rfl
  have U2 : ∀ w', Touch [] V w' → w'.cell? ⟨w.heap.size, 2, none⟩ = some (.slice la ln lc) := fun w' X => cell_at (X.keep hbT (by simp)) rfl
  have U3 : ∀ w', Touch [] V w' → w'.cell? ⟨w.heap.size, 3, none⟩ = some (.slice ga n gc) := fun w' X => cell_at (X.keep hbT (by simp)) rfl
  have HF : Hid (∀ w', Touch [] V w' → (w'.cell? ⟨w.heap.size, 0, none⟩ = some (.int .i64 fl) ∧ w'.cell? ⟨w.heap.size, 1, none⟩ = some (.int .i64 bg) ∧ w'.cell? ⟨w.heap.size, 2, none⟩ = some (.slice la ln lc) ∧ w'.cell? ⟨w.heap.size, 3, none⟩ = some (.slice ga n gc)) ∧ (w'.cell? ⟨w.heap.size + 2, 0, none⟩ = some (.int .i64 0) ∧ w'.cell? ⟨w.heap.size + 2, 1, none⟩ = some (.int .i64 0) ∧ w'.cell? ⟨w.heap.size + 2, 2, none⟩ = some (.slice none 0 0) ∧ w'.cell? ⟨w.heap.size + 2, 3, none⟩ = some (.slice none 0 0)) ∧ ∀ j, w'.frozen? ⟨w.heap.size, j, none⟩ = false ∧ w'.frozen? ⟨w.heap.size + 2, j, none⟩ = false) := fun w' X =>
    have q0 := X.keep hbT (by simp)
    have q1 := X.keep hbZ (by simp)
    ⟨⟨cell_at q0 rfl, cell_at q0 rfl, cell_at q0 rfl, cell_at q0 rfl⟩, ⟨cell_at q1 rfl, cell_at q1 rfl, cell_at q1 rfl, cell_at q1 rfl⟩, fun j => ⟨froz_at q0 j, froz_at q1 j⟩⟩
  have HG : Hid (∀ w', Touch [] V w' → w'.ownsRow 0 122 3 (.slice ga n gc) n (gs.flatMap row3)) := fun w' t => own_touch h (TV.trans' t) (fun _ _ e => by cases e)
  have HZF : Hid (∀ w', Touch [] V w' → ∀ j v0 v1 v2 v3 p, _) := fun w' t j v0 v1 v2 v3 p => fin4 (t.keep hbT (by simp)) (t.keep hbZ (by simp)) j v0 v1 v2 v3 p
  have HB : Hid (∀ w', Touch [] V w' → w'.cell? ⟨w.heap.size + 1, 0, none⟩ = some (.int .u16 k.1) ∧ w'.cell? ⟨w.heap.size + 1, 1, none⟩ = some (.string k.2)) := fun w' t => ⟨E1 w' t, E2 w' t⟩
  have HN := hid hn
  have HL := hid hl
  have zn : (n : Int) ≤ 3000000000000 := by omega
  have hwr : IntKind.i64.wrap (ofL gs k + 1) = ofL gs k + 1 := by rw [IntKind.wrap_i64]; omega
  have HT := hid TV
  have HS := hid hsz
  clear hn h hl hbK hbT hbZ TV hsz h0 h1
  unfold kv at HO
  have HP0 : Hid (onP gs k 0 = [(k, ofL gs k + 1)]) := hid (by unfold onP; simp)
  obtain ⟨og, hog⟩ : ∃ og, og = ofL gs k := ⟨_, rfl⟩
  rw [← hog] at HO hwr HP0
  clear hog
  unfold bxRK at hV
  unfold kv
  go_enter Tryz.func51, Tryz.ntmps51
  go_upto_region 1 with fail
  rw [← hV]
  clear hV
  have k0 : Touch [] V V.drew := (Touch.refl _ _).drew
  refine wp_region_H (S := fun w' => Touch [] V w') (by kernel_rfl) ?_
  refine wpH_take (i := 0) (v := (.agg #[.int .u16 k.1, .string k.2])) (some 8) rfl rfl (by kernel_rfl) (by kernel_rfl) (by kernel_rfl) (fun _ _ _ h => h) (Or.inl ⟨by rfl, fun w' hS => (by have z0 := E1 _ hS; have z1 := E2 _ hS; go_simp)⟩) k0 ?_
  try simp only [Go.Act.put, List.setIfInBounds_toArray, List.set_cons_zero, List.set_cons_succ]
  refine wpH_take (i := 1) (v := (.agg #[.int .i64 fl, .int .i64 bg, .slice la ln lc, .slice ga n gc])) (some 9) rfl rfl (by kernel_rfl) (by kernel_rfl) (by kernel_rfl) (fun _ _ _ h => h) (Or.inl ⟨by rfl, fun w' hS => (by have z0 := U0 _ hS; have z1 := U1 _ hS; have z2 := U2 _ hS; have z3 := U3 _ hS; go_simp)⟩) k0 ?_
  try simp only [Go.Act.put, List.setIfInBounds_toArray, List.set_cons_zero, List.set_cons_succ]
  refine wpH_take (i := 2) (v := (.agg #[.int .u16 k.1, .string k.2])) (some 10) rfl rfl (by kernel_rfl) (by kernel_rfl) (by kernel_rfl) (fun _ _ _ h => h) (Or.inl ⟨by rfl, fun w' hS => (by have z0 := E1 _ hS; have z1 := E2 _ hS; go_simp)⟩) k0 ?_
  try simp only [Go.Act.put, List.setIfInBounds_toArray, List.set_cons_zero, List.set_cons_succ]
  refine wpH_call (i := 3) (o := { dst := some 11, op := Op.call { callee := Callee.value (Operand.func 32), args := #[Operand.tmp 9, Operand.tmp 10], argTypes := #[31, 68] }, type := 3, pos := _, after := #[{ on := 1, ground := Ground.data }, { on := 2, ground := Ground.data }], guard := none }) (by kernel_rfl) rfl (fun K' hK => ?_)
  rw [if_pos (by rfl)]
  go_simp
  refine (HO.out _ k0).mono ?_
  rintro e' w2 ⟨rfl, kO⟩
  refine hK.out _ _ kO ?_
  clear hK
  try simp only [Go.Act.put, List.setIfInBounds_toArray, List.set_cons_zero, List.set_cons_succ]
  refine wpH_take (i := 4) (v := (.int .i64 (og + 1))) (some 12) rfl rfl (by kernel_rfl) (by kernel_rfl) (by kernel_rfl) (fun _ _ _ h => h) (Or.inl ⟨by rfl, fun w' hS => (by go_simp)⟩) kO ?_
  try simp only [Go.Act.put, List.setIfInBounds_toArray, List.set_cons_zero, List.set_cons_succ]
  refine wpH_take (i := 5) (v := (.agg #[.int .u16 k.1, .string k.2, .int .i64 (og + 1)])) (some 13) rfl rfl (by kernel_rfl) (by kernel_rfl) (by kernel_rfl) (fun _ _ _ h => h) (Or.inl ⟨by rfl, fun w' hS => (by go_simp)⟩) kO ?_
  try simp only [Go.Act.put, List.setIfInBounds_toArray, List.set_cons_zero, List.set_cons_succ]
  refine wpH_call (i := 6) (o := { dst := some 14, op := Op.buildSlice 29 1 #[(0, Operand.tmp 13)], type := 29, pos := _, after := #[{ on := 5, ground := Ground.data }], guard := none }) (by kernel_rfl) rfl (fun K' hK => ?_)
  rw [if_pos (by rfl)]
  go_simp
  refine hK.out _ _ (kO.alloc _) ?_
  clear hK
  try simp only [Go.Act.put, List.setIfInBounds_toArray, List.set_cons_zero, List.set_cons_succ]
  refine wpH_take (i := 7) (v := (.slice (some ⟨w2.heap.size, 0, none⟩) 1 1)) (some 5) rfl rfl (by kernel_rfl) (by kernel_rfl) (by kernel_rfl) (fun _ _ _ h => h) (Or.inl ⟨by rfl, fun w' hS => (by go_simp)⟩) (kO.alloc _) ?_
  try simp only [Go.Act.put, List.setIfInBounds_toArray, List.set_cons_zero, List.set_cons_succ]
  refine wpAnyH_done (by kernel_rfl) ?_ _
  have H0 : Hid ((w2.alloc (.cells #[.int .u16 k.1, .string k.2, .int .i64 (og + 1)] 122)).ownsRow V.heap.size 122 3 (.slice (some ⟨w2.heap.size, 0, none⟩) 1 1) (onP gs k 0).length ((onP gs k 0).flatMap row3)) := hid (by rw [HP0.out]; exact own_new w2 _ _ _ _ rfl kO.size)
  have T0 : Hid (Touch [] V (w2.alloc (.cells #[.int .u16 k.1, .string k.2, .int .i64 (og + 1)] 122))) := kO.alloc _
  have hg := U3 _ T0.out
  have HL1 : Hid ((onP gs k 0).length = 1) := hid (by rw [HP0.out]; rfl)
  generalize w2.alloc (.cells #[.int .u16 k.1, .string k.2, .int .i64 (og + 1)] 122) = w3 at *
  clear E1 E2 U0 U1 U2 U3 HO hwr k0 kO
  go_wp2
  go_loopw [5, 18] (fun s5 s18 wr => ∃ (i : Nat), s18 = .int .i64 (i : Int) ∧ i ≤ n ∧ ∃ (a : Option Addr) (m c : Nat), s5 = .slice a m c ∧ Hid (m = (onP gs k i).length ∧ Touch [] V wr ∧ wr.ownsRow V.heap.size 122 3 (.slice a m c) m ((onP gs k i).flatMap row3))) (fun _ s _ => n - (intOf s).toNat)
  case atStart => exact ⟨0, rfl, Nat.zero_le _, _, _, _, rfl, HL1.out.symm, T0.out, by have := H0.out; rwa [HL1.out] at this⟩
  case round =>
    clear HL1 T0 H0 hg
    obtain ⟨i, rfl, hi, a, m, c, rfl, HR⟩ := hrel
    by_cases hlt : i < n
    · have zi : (i : Int) < (n : Int) := by omega
      obtain ⟨x, hx⟩ : ∃ x, gs[i]? = some x := ⟨_, List.getElem?_eq_getElem (by have := HN.out; omega)⟩
      have ho := HG.out _ HR.out.2.1
      obtain ⟨g, c', e, _, _⟩ := own_some ho (by omega)
      cases e
      obtain ⟨r0, r1, r2⟩ := gr_cells ho hx
      obtain ⟨b0, b1⟩ := HB.out _ (HR.out.2.1.alloc (.cells #[.int .u16 x.1.1, .string x.1.2, .int .i64 x.2] 122))
      have eq := fun w => neqK w x.1 k
      have HNi := hid (And.intro hi hlt)
      have HX := hid hx
      by_cases hk : x.1 = k
      · rw [decide_eq_false (fun e => e hk)] at eq
        have HP := hid (onP_skip hx hk)
        clear ho hk hx
        go_wp2
        go_roundw
        case rel => exact ⟨i + 1, by go_num, by have := HNi.out; omega, a, m, c, rfl, by rw [HP.out]; exact HR.out.1, HR.out.2.1.alloc _, by rw [HP.out]; exact own_touch HR.out.2.2 ((Touch.refl [] _).alloc _) (fun _ _ e => by cases e)⟩
        case measure => simp [intOf]; have := HNi.out; omega
      · rw [decide_eq_true hk] at eq
        have HP := hid (onP_add hx hk)
        have HA : Hid (∀ ob v', Touch [] V ((wr.alloc ob).alloc v') ∧ ((wr.alloc ob).alloc v').ownsRow V.heap.size 122 3 (.slice a m c) m ((onP gs k i).flatMap row3)) := fun ob v' => ⟨(HR.out.2.1.alloc _).alloc _, own_touch HR.out.2.2 (((Touch.refl [] _).alloc _).alloc _) (fun _ _ e => by cases e)⟩
        have HM : Hid (m ≤ n + 1) := hid (by rw [HR.out.1]; exact onP_len gs k hi)
        have HW : Hid (∀ ob, Rs 122 3 ((wr.alloc ob).alloc (.cells #[.int .u16 x.1.1, .string x.1.2, .int .i64 x.2] 122)) (.slice (some ⟨wr.heap.size + 1, 0, none⟩) 1 1) 1 (row3 x)) := fun ob => by have := Rs.new (wr.alloc ob) #[.int .u16 x.1.1, .string x.1.2, .int .i64 x.2] 122 3 rfl; rwa [World.size_alloc] at this
        clear ho hk hx
        go_wp2_with (at_builtin; refine wpList_append_rs rfl _ _ 29 122 rfl _ 3 32 infoG Tryz.underlying29 rfl (by decide) V.heap.size _ m _ rfl (HA.out _ _).2 (.slice (some ⟨wr.heap.size + 1, 0, none⟩) 1 1) 1 (row3 x) rfl (HW.out _) (by simp [row3, Value.oneCell']) (by have := HM.out; have := HL.out; unfold maxLen; omega) (by have := HM.out; have := HL.out; omega) (HA.out _ _).1.size ?_; intro v5 w5 o5 g5 _; have T5 := hid (touch_grown (HA.out _ _).1 g5 (HA.out _ _).2 (Nat.le_refl _)); obtain ⟨a5, c5, e5⟩ := own_form o5; subst e5; have O5 := hid o5; clear o5 g5)
        go_roundw
        case rel => exact ⟨i + 1, by go_num, by have := HNi.out; omega, a5, m + 1, c5, rfl, by rw [HP.out, List.length_append, ← HR.out.1]; rfl, T5.out, by rw [HP.out, List.flatMap_append]; simpa using O5.out⟩
        case measure => simp [intOf]; have := HNi.out; omega
    · have zi : (n : Int) ≤ (i : Int) := by omega
      obtain ⟨⟨t0, t1, t2, t3⟩, ⟨y0, y1, y2, y3⟩, ff⟩ := HF.out _ HR.out.2.1
      have HZ := hid (HZF.out _ HR.out.2.1)
      have f0 := fun j => (ff j).1
      have f2 := fun j => (ff j).2
      clear ff
      have HE : Hid (m = (onL gs k).length ∧ wr.ownsRow V.heap.size 122 3 (.slice a m c) m ((onL gs k).flatMap row3)) := hid (by
        have e : i = n := by omega
        have := HR.out.2.2
        have e2 := HR.out.1
        rw [onP_all gs k (by rw [e]; exact HN.out)] at this e2
        exact ⟨e2, this⟩)
      have HT2 := hid HR.out.2.1
      clear HR hi hlt
      go_wp2
      obtain ⟨q4, tF⟩ := HZ.out 3 (.int .i64 fl) (.int .i64 bg) (.slice la ln lc) (.slice a m c) (.slice a m c)
      have q0 := cell_at (j := 0) q4 rfl
      have q1 := cell_at (j := 1) q4 rfl
      have q2 := cell_at (j := 2) q4 rfl
      have q3 := cell_at (j := 3) q4 rfl
      refine bodyPost_ret (v := .agg #[.int .i64 fl, .int .i64 bg, .slice la ln lc, .slice a m c]) (by simp [results, Tryz.results51, go_sem, q0, q1, q2, q3]) rfl ⟨a, c, by rw [← HE.out.1], ?_, ?_⟩
      · have := own_touch HE.out.2 tF (fun b hb e => by have := (HE.out.2.lt b hb).1; have := HS.out; simp at e; omega)
        rw [← HE.out.1]
        exact own_base this HT.out.size
      · exact (HT.out.trans' HT2.out).trans tF (fun b hb => Or.inr (by simp at hb; omega))
theorem flat8 {d : De} : ∀ (ds : List De) (i : Nat) (d0 : De), ds[i]? = some d0 → ((((((((ds.flatMap row8).set (i * 8) (.int .i64 d.R.run)).set (i * 8 + 1) (.int .i64 d.R.gen)).set (i * 8 + 2) (.int .u16 d.R.sp)).set (i * 8 + 3) (.string d.R.nm)).set (i * 8 + 4) (.bool d.R.rf)).set (i * 8 + 5) (.bool d.S.kept)).set (i * 8 + 6) (.bool d.S.canc)).set (i * 8 + 7) d.v = (ds.set i d).flatMap row8
  | [], i, d0, h => by simp at h
  | a :: r, 0, d0, h => rfl
  | a :: r, i + 1, d0, h => by
    have ih := flat8 (d := d) r i d0 (by simpa using h)
    have q : ∀ (j : Nat) (v : Value) (l : List Value), (row8 a ++ l).set ((i + 1) * 8 + j) v = row8 a ++ l.set (i * 8 + j) v := fun j v l => by
      rw [List.set_append_right _ _ (by rw [row8_len]; omega), row8_len, show (i + 1) * 8 + j - 8 = i * 8 + j by omega]
    have q0 : ∀ (v : Value) (l : List Value), (row8 a ++ l).set ((i + 1) * 8) v = row8 a ++ l.set (i * 8) v := fun v l => q 0 v l
    rw [List.flatMap_cons, q0, q, q, q, q, q, q, q, ih, List.set_cons_succ, List.flatMap_cons]
def st8 (w : World) (g p : Nat) (d : De) : World := (((((((w.setCell ⟨g, p, none⟩ (.int .i64 d.R.run)).setCell ⟨g, p + 1, none⟩ (.int .i64 d.R.gen)).setCell ⟨g, p + 2, none⟩ (.int .u16 d.R.sp)).setCell ⟨g, p + 3, none⟩ (.string d.R.nm)).setCell ⟨g, p + 4, none⟩ (.bool d.R.rf)).setCell ⟨g, p + 5, none⟩ (.bool d.S.kept)).setCell ⟨g, p + 6, none⟩ (.bool d.S.canc)).setCell ⟨g, p + 7, none⟩ d.v
theorem own_st8 {w : World} {B g n c i : Nat} {ds : List De} {d d0 : De} (h : w.ownsRow B 78 8 (.slice (some ⟨g, 0, none⟩) n c) n (ds.flatMap row8)) (hi : ds[i]? = some d0) : (st8 w g (i * 8) d).ownsRow B 78 8 (.slice (some ⟨g, 0, none⟩) n c) n ((ds.set i d).flatMap row8) := by
  rw [← flat8 ds i d0 hi]
  exact own_set (own_set (own_set (own_set (own_set (own_set (own_set (own_set h _ _) _ _) _ _) _ _) _ _) _ _) _ _) _ _
theorem touch_st8 {F : List Nat} {w0 w : World} (t : Touch F w0 w) {g : Nat} (hg : g ∈ F ∨ w0.heap.size ≤ g) (p : Nat) (d : De) : Touch F w0 (st8 w g p d) :=
  (((((((t.setCell hg _).setCell hg _).setCell hg _).setCell hg _).setCell hg _).setCell hg _).setCell hg _).setCell hg _
set_option maxHeartbeats 4000000 in
set_option maxRecDepth 100000 in
theorem with_ (w : World) (fl bg : Int) (la ga va : Option Addr) (n lc gn gc i vn vc : Nat) (ds : List De) (R : Rn) (S : St) (hn : n = ds.length) (hl : n ≤ 1700000000000) (hi : i < n) (h : w.ownsRow 0 78 8 (.slice la n lc) n (ds.flatMap row8)) (hv : ∀ d ∈ ds, ∃ a m c, d.v = .slice a m c) :
    Calls Tryz.prog 41 #[.agg #[.int .i64 fl, .int .i64 bg, .slice la n lc, .slice ga gn gc], .int .i64 (i : Int), dv8 ⟨R, S, .slice va vn vc⟩] w fun e w' => ∃ a c, e = .returned (.agg #[.int .i64 fl, .int .i64 bg, .slice a n c, .slice ga gn gc]) ∧ w'.ownsRow w.heap.size 78 8 (.slice a n c) n ((ds.set i ⟨R, S, .slice va vn vc⟩).flatMap row8) ∧ Touch [] w w' := by
  obtain ⟨V, hV⟩ : ∃ V, V = ((w.alloc (.cells #[.int .i64 fl, .int .i64 bg, .slice la n lc, .slice ga gn gc] 31)).alloc (bxE ⟨R, S, .slice va vn vc⟩)).alloc (.cells #[.int .i64 0, .int .i64 0, .slice none 0 0, .slice none 0 0] 31) := ⟨_, rfl⟩
  have TV : Touch [] w V := by rw [hV]; exact (((Touch.refl _ _).alloc _).alloc _).alloc _
  have hsz : V.heap.size = w.heap.size + 3 := by rw [hV]; simp
  have hbT : V.heap[w.heap.size]? = some (.cells #[.int .i64 fl, .int .i64 bg, .slice la n lc, .slice ga gn gc] 31 (0, 0)) := by rw [hV]; exact (Below.heap_alloc _ _ _ (by simp; omega)).trans ((Below.heap_alloc _ _ _ (by simp)).trans (heap_alloc_new w _))
  have hbE : V.heap[w.heap.size + 1]? = some (.cells #[.int .i64 R.run, .int .i64 R.gen, .int .u16 R.sp, .string R.nm, .bool R.rf, .bool S.kept, .bool S.canc, .slice va vn vc] 78 (0, 0)) := by
    rw [hV]
    have := heap_alloc_new (w.alloc (.cells #[.int .i64 fl, .int .i64 bg, .slice la n lc, .slice ga gn gc] 31)) (bxE ⟨R, S, .slice va vn vc⟩)
    rw [World.size_alloc] at this
    exact (Below.heap_alloc _ _ _ (by simp)).trans this
  have hbZ : V.heap[w.heap.size + 1 + 1]? = some (.cells #[.int .i64 0, .int .i64 0, .slice none 0 0, .slice none 0 0] 31 (0, 0)) := by
    rw [hV]
    have := heap_alloc_new ((w.alloc (.cells #[.int .i64 fl, .int .i64 bg, .slice la n lc, .slice ga gn gc] 31)).alloc (bxE ⟨R, S, .slice va vn vc⟩)) (.cells #[.int .i64 0, .int .i64 0, .slice none 0 0, .slice none 0 0] 31)
    rwa [World.size_alloc, World.size_alloc] at this
  have hg : (V.alloc (.cells #[] 78)).cell? ⟨w.heap.size, 2, none⟩ = some (.slice la n lc) := cell_at (((Touch.refl [] V).alloc _).keep hbT (by simp)) rfl
  have HM : Hid ((V.alloc (.cells #[] 78)).ownsRow V.heap.size 78 8 (.slice (some ⟨V.heap.size, 0, none⟩) 0 0) 0 []) := World.ownsRow_made (e := 78) (size := 8) V #[] 0 (Nat.le_refl _) (by unfold maxLen; omega) rfl
  have HR : Hid (Rs 78 8 (V.alloc (.cells #[] 78)) (.slice la n lc) n (ds.flatMap row8)) := (Rs.of_own (own_touch h (TV.alloc _) (fun _ _ e => by cases e)))
  have H1 : Hid (∀ y ∈ ds.flatMap row8, y.oneCell' = true) := fun y hy => by
    obtain ⟨d, hd, hy⟩ := List.mem_flatMap.1 hy
    obtain ⟨a, m, c, e⟩ := hv d hd
    unfold row8 at hy
    rw [e] at hy
    simp only [List.mem_cons, List.not_mem_nil, or_false] at hy
    rcases hy with rfl | rfl | rfl | rfl | rfl | rfl | rfl | rfl <;> rfl
  have HK : Hid (∀ w', Touch [] V w' → (w'.heap[w.heap.size]? = some (.cells #[.int .i64 fl, .int .i64 bg, .slice la n lc, .slice ga gn gc] 31 (0, 0)) ∧ w'.heap[w.heap.size + 1]? = some (.cells #[.int .i64 R.run, .int .i64 R.gen, .int .u16 R.sp, .string R.nm, .bool R.rf, .bool S.kept, .bool S.canc, .slice va vn vc] 78 (0, 0))) ∧ w'.heap[w.heap.size + 1 + 1]? = some (.cells #[.int .i64 0, .int .i64 0, .slice none 0 0, .slice none 0 0] 31 (0, 0))) := fun w' X => ⟨⟨X.keep hbT (by simp), X.keep hbE (by simp)⟩, X.keep hbZ (by simp)⟩
  have HN := hid hn
  have HL := hid hl
  have HI := hid hi
  have HT := hid TV
  have HS := hid hsz
  obtain ⟨d0, hd0⟩ : ∃ d0, ds[i]? = some d0 := ⟨_, List.getElem?_eq_getElem (by omega)⟩
  have HD := hid hd0
  have zi : (i : Int) < (n : Int) := by omega
  have zn : (n : Int) ≤ 1700000000000 := by omega
  clear hn h hl hbE hbT hbZ TV hsz hv hd0
  unfold bxE at hV
  unfold dv8
  simp only at hV ⊢
  go_enter Tryz.func41, Tryz.ntmps41
  go_upto_region 1 with fail
  rw [← hV]
  clear hV
  go_upto_region 2 with (at_builtin; refine wpList_append_rs rfl _ _ 28 78 rfl _ 8 72 infoR Tryz.underlying28 rfl (by decide) V.heap.size _ 0 [] rfl HM.out _ n (ds.flatMap row8) rfl HR.out H1.out (by have := HL.out; unfold maxLen; omega) (by have := HL.out; omega) (by simp) ?_; intro v5 w5 o5 g5 _; rw [Nat.zero_add, List.nil_append] at o5; have t5 : Touch [] V w5 := touch_grown ((Touch.refl [] V).alloc _) g5 HM.out (Nat.le_refl _); obtain ⟨a5, c5, e5, s5, _⟩ := own_some o5 (by have := HI.out; omega); subst e5; obtain ⟨⟨k1, k2⟩, k3⟩ := HK.out _ t5; have u2 := cell_at (j := 2) k1 rfl; have v2 := froz_at k1; have O5 := hid o5; have T5 := hid t5; have K5 := hid (And.intro k1 (And.intro k2 k3)); clear o5 g5 t5 k1 k2 k3)
  obtain ⟨W6, hW6⟩ : ∃ W, W = w5.setCell ⟨w.heap.size, 2, none⟩ (.slice (some ⟨a5, 0, none⟩) n c5) := ⟨_, rfl⟩
  have t6 : Touch [w.heap.size] w5 W6 := by rw [hW6]; exact (Touch.refl _ _).setCell (Or.inl (by simp)) _
  have k1 : W6.heap[w.heap.size]? = some (.cells #[.int .i64 fl, .int .i64 bg, .slice (some ⟨a5, 0, none⟩) n c5, .slice ga gn gc] 31 (0, 0)) := by rw [hW6]; exact (bset K5.out.1 _).trans rfl
  have k2 := t6.keep K5.out.2.1 (by simp)
  have k3 := t6.keep K5.out.2.2 (by simp; omega)
  have ho := own_touch O5.out t6 (fun b hb e => by have := HS.out; have := (O5.out.lt b hb).1; simp at e; omega)
  have T6 : Touch [] w W6 := ((HT.out.trans' T5.out)).trans t6 (fun b hb => Or.inr (by simp at hb; omega))
  rw [← hW6]
  clear hW6 t6 T5 K5 O5 u2 v2 HK HR H1 HM hg
  obtain ⟨r0, r1, r2, r3, r4, r5, r6, r7⟩ := lr_cells (own_base ho (Nat.zero_le _)) HD.out
  have ff := own_frozen ho
  have e2 := cell_at (j := 2) k1 rfl
  have x0 := cell_at (j := 0) k2 rfl
  have x1 := cell_at (j := 1) k2 rfl
  have x2 := cell_at (j := 2) k2 rfl
  have x3 := cell_at (j := 3) k2 rfl
  have x4 := cell_at (j := 4) k2 rfl
  have x5 := cell_at (j := 5) k2 rfl
  have x6 := cell_at (j := 6) k2 rfl
  have x7 := cell_at (j := 7) k2 rfl
  have K6 := hid (And.intro k1 k3)
  have O6 := hid ho
  have HT6 := hid T6
  clear k1 k2 k3 ho T6
  go_upto_region 3 with fail
  obtain ⟨W7, hW7⟩ : ∃ W, W = st8 W6 a5 (i * 8) ⟨R, S, .slice va vn vc⟩ := ⟨_, rfl⟩
  have o7 := own_st8 (d := ⟨R, S, .slice va vn vc⟩) O6.out HD.out
  have t7 := touch_st8 (Touch.refl [a5] W6) (g := a5) (Or.inl (by simp)) (i * 8) ⟨R, S, .slice va vn vc⟩
  have z5 : w.heap.size + 3 ≤ a5 := by have := HS.out; omega
  rw [← hW7] at o7 t7
  unfold st8 at hW7
  simp only at hW7
  rw [← hW7]
  clear hW7 r0 r1 r2 r3 r4 r5 r6 r7 ff x0 x1 x2 x3 x4 x5 x6 x7 e2
  have k1 := t7.keep K6.out.1 (by simp; omega)
  have k3 := t7.keep K6.out.2 (by simp; omega)
  have y0 := cell_at (j := 0) k1 rfl
  have y1 := cell_at (j := 1) k1 rfl
  have y2 := cell_at (j := 2) k1 rfl
  have y3 := cell_at (j := 3) k1 rfl
  have p0 := cell_at (j := 0) k3 rfl
  have p1 := cell_at (j := 1) k3 rfl
  have p2 := cell_at (j := 2) k3 rfl
  have p3 := cell_at (j := 3) k3 rfl
  have ff := froz_at k3
  have HZ := hid (finZ k3)
  have O7 := hid o7
  have T7 := hid t7
  clear k1 k3 o7 t7 K6 O6
  go_wp2
  obtain ⟨q4, tF⟩ := HZ.out (.int .i64 fl) (.int .i64 bg) (.slice (some ⟨a5, 0, none⟩) n c5) (.slice ga gn gc)
  have q0 := cell_at (j := 0) q4 rfl
  have q1 := cell_at (j := 1) q4 rfl
  have q2 := cell_at (j := 2) q4 rfl
  have q3 := cell_at (j := 3) q4 rfl
  refine bodyPost_ret (v := .agg #[.int .i64 fl, .int .i64 bg, .slice (some ⟨a5, 0, none⟩) n c5, .slice ga gn gc]) (by simp [results, Tryz.results41, go_sem, q0, q1, q2, q3]) rfl ⟨_, _, rfl, ?_, ?_⟩
  · refine own_base (own_touch O7.out tF (fun b hb e => ?_)) HT.out.size
    have := (O7.out.lt b hb).1
    have := HS.out
    simp at e
    omega
  · refine (HT6.out.trans T7.out (fun b hb => Or.inr (by simp at hb; omega))).trans tF (fun b hb => Or.inr (by simp at hb; omega))
end Go.Proofs.YtpihhlllembdeaaGreat
