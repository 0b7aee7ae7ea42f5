/- The contracts of Seats' seats and of callers; no conditions but those that each states. -/
import Derived.Test.YtlmmljmhfghlnaaVse
import Derived.Test.YtlmmljmhfghlnaaHlg
namespace Go.Proofs.Ytlmmljmhfghlnaa
open Go.RowKit Go.Maps Go.ChangeMaps
set_option linter.unusedVariables false
set_option linter.unusedSimpArgs false
def inK (k : Nat) (n : Int) (L : List Se) : List Se := L.filter (fun x => decide (num k x = n))
theorem inK0 (L : List Se) : inK 0 0 L = L := List.filter_eq_self.2 (fun _ _ => rfl)
theorem inK1 (n : Int) (L : List Se) : inK 1 n L = inL 1 n L := rfl
theorem inK2 (n : Int) (L : List Se) : inK 2 n L = inL 2 n L := rfl
theorem zeroRow (w : World) : (zeroValue 82).run Try.prog w = .ok (rowV []) w := by kernel_rfl
theorem w64k {k : Nat} (h : k < 3) : W64 (k : Int) := W64.mk (by omega) (by omega)
section
variable {w : World} {s nr : Nat} {mc mr mk : Option Nat} {CH : List Chr} {G : List Int}
theorem rmap_get (CH : List Chr) {k : Nat} (hk : k < 3) (n : Int) : (rmap CH ((k : Int), n)).getD (rowV []) = rowV (rowOf k n CH) ∧ (rmap CH ((k : Int), n)).isSome = decide (rowOf k n CH ≠ []) := by
  unfold rmap
  simp only [Int.toNat_natCast]
  by_cases h : rowOf k n CH = []
  · rw [if_neg (fun e => e.2.2 h), h]; simp
  · rw [if_pos ⟨by omega, by omega, h⟩]; simp [h]
theorem Sm.lookR (h : Sm w s mc mr mk nr CH G) {k : Nat} (hk : k < 3) {n : Int} (hn : W64 n) : (Instr.lookup 57 (.map mr) (.agg #[.int .i64 (k : Int), .int .i64 n]) false).run Try.prog w = .ok (rowV (rowOf k n CH)) w := by
  have ok : KN.ok ((k : Int), n) := ⟨w64k hk, hn⟩
  rcases h.cm with ⟨_, h1, h2⟩ | ⟨b, d, h1, h2, _, _, h3⟩
  · rw [h1, h2]
    exact look_nil KN Try.underlying57 (zeroRow w) ok
  · rw [h2]
    have := h3.look (t := 57) Try.underlying57 (zeroRow w) ok
    rw [(rmap_get CH hk n).1] at this
    exact this
theorem Sm.lookRok (h : Sm w s mc mr mk nr CH G) {k : Nat} (hk : k < 3) {n : Int} (hn : W64 n) : (Instr.lookup 57 (.map mr) (.agg #[.int .i64 (k : Int), .int .i64 n]) true).run Try.prog w = .ok (.tuple #[rowV (rowOf k n CH), .bool (decide (rowOf k n CH ≠ []))]) w := by
  have ok : KN.ok ((k : Int), n) := ⟨w64k hk, hn⟩
  rcases h.cm with ⟨_, h1, h2⟩ | ⟨b, d, h1, h2, _, _, h3⟩
  · rw [h1, h2]
    have := Maps.look_nil true KN.keyed Try.underlying57 (zeroRow w) (KN.key ok)
    rw [show (decide (rowOf k n [] ≠ [])) = false by simp [rowOf], show rowOf k n [] = [] from rfl]
    exact this
  · rw [h2]
    have := h3.lookOk (t := 57) Try.underlying57 (zeroRow w) ok
    rw [(rmap_get CH hk n).1, (rmap_get CH hk n).2] at this
    exact this
theorem Sm.cell (h : Sm w s mc mr mk nr CH G) : w.cell? ⟨s, 0, none⟩ = some (.map mc) ∧ w.cell? ⟨s, 1, none⟩ = some (.map mr) ∧ w.cell? ⟨s, 2, none⟩ = some (.map mk) ∧ ∀ j, w.frozen? ⟨s, j, none⟩ = false := ⟨cell_at h.hb rfl, cell_at h.hb rfl, cell_at h.hb rfl, froz_at h.hb⟩
/-- A row's chairs, and the seats that they are. -/
theorem row_seats (CH : List Chr) (k : Nat) (n : Int) (i q : Nat) (hq : (rowOf k n CH)[i]? = some q) : ∃ p ∈ CH, p.1 = q ∧ (inK k n (CH.map Prod.snd))[i]? = some p.2 ∧ num k p.2 = n := by
  have e : inK k n (CH.map Prod.snd) = (CH.filter (fun p => decide (num k p.2 = n))).map Prod.snd := by
    unfold inK
    rw [List.filter_map]
    rfl
  unfold rowOf at hq
  rw [List.getElem?_map] at hq
  cases hp : (CH.filter (fun p => decide (num k p.2 = n)))[i]? with
  | none => rw [hp] at hq; cases hq
  | some p =>
    rw [hp] at hq
    simp only [Option.map_some, Option.some.injEq] at hq
    have hm := List.mem_filter.1 (List.mem_of_getElem? hp)
    exact ⟨p, hm.1, hq, by rw [e, List.getElem?_map, hp]; rfl, by simpa using hm.2⟩
theorem row_len (CH : List Chr) (k : Nat) (n : Int) : (inK k n (CH.map Prod.snd)).length = (rowOf k n CH).length := by
  have e : inK k n (CH.map Prod.snd) = (CH.filter (fun p => decide (num k p.2 = n))).map Prod.snd := by
    unfold inK
    rw [List.filter_map]
    rfl
  rw [e]
  unfold rowOf
  simp
theorem row_le (CH : List Chr) (k : Nat) (n : Int) : (rowOf k n CH).length ≤ CH.length := by
  unfold rowOf
  rw [List.length_map]
  exact List.length_filter_le _ _
def bxN (k : Nat) (n : Int) : Obj := .cells #[.int .i64 (k : Int), .int .i64 n] 73
set_option maxHeartbeats 2000000 in
theorem seats_ (h : Sm w s mc mr mk nr CH G) {k : Nat} (hk : k < 3) {n : Int} (hn : W64 n) (hb : CH.length ≤ 5000000000000) : Calls Try.prog 30 #[PT s, .agg #[.int .i64 (k : Int), .int .i64 n]] w fun e w' => SlE e w w' (inK k n (CH.map Prod.snd)) := by
  obtain ⟨V, hV⟩ : ∃ V, V = w.alloc (bxN k n) := ⟨_, rfl⟩
  have tv : Touch [] w V := by rw [hV]; exact (Touch.refl _ _).alloc _
  have hvb : V.heap[w.heap.size]? = some (.cells #[.int .i64 (k : Int), .int .i64 n] 73 (0, 0)) := by rw [hV]; exact heap_alloc_new w _
  have M1 : ∀ w', Touch [] V w' → w'.cell? ⟨s, 1, none⟩ = some (.map mr) := fun w' t => (h.keep0 (tv.trans' t)).cell.2.1
  have B0 : ∀ w', Touch [] V w' → w'.cell? ⟨w.heap.size, 0, none⟩ = some (.int .i64 (k : Int)) := fun w' t => cell_at (t.keep hvb (by simp)) rfl
  have B1 : ∀ w', Touch [] V w' → w'.cell? ⟨w.heap.size, 1, none⟩ = some (.int .i64 n) := fun w' t => cell_at (t.keep hvb (by simp)) rfl
  have L0 : ∀ w', Touch [] V w' → (Instr.lookup 57 (.map mr) (.agg #[.int .i64 (k : Int), .int .i64 n]) false).run Try.prog w' = .ok (.agg #[pv (rowOf k n CH).head?, pv (lastO none (rowOf k n CH))]) w' := fun w' t => (h.keep0 (tv.trans' t)).lookR hk hn
  obtain ⟨f, hf⟩ : ∃ f, pv (rowOf k n CH).head? = .pointer f := ⟨_, rfl⟩
  obtain ⟨l, hl'⟩ : ∃ l, pv (lastO none (rowOf k n CH)) = .pointer l := ⟨_, rfl⟩
  rw [hf, hl'] at L0
  have HC : Hid (∀ W, Touch [] V W → W.heap[V.heap.size]? = some (.cells #[.pointer f, .pointer l] 82 (0, 0)) → Calls Try.prog 38 #[PT V.heap.size, .int .i64 (k : Int)] W fun e w' => SlE e w w' (inK k n (CH.map Prod.snd))) := hid (fun W t hr => by
    have h2 := h.keep0 (tv.trans' t)
    obtain ⟨A, B, hc, hl⟩ := h2.lk
    refine (rseats_ W V.heap.size k hk (rowOf k n CH) (inK k n (CH.map Prod.snd)) (by rw [hr, rowC, hf, hl']) (row_len CH k n) (fun i q hq => ?_) (Nat.le_trans (row_le CH k n) hb)).mono ?_
    · obtain ⟨p, hp, rfl, h3, h4⟩ := row_seats CH k n i q hq
      exact ⟨p.2, _, _, h3, hc p hp, (hl k hk n).next hq⟩
    · rintro e w' ⟨a, c, rfl, r, t2⟩
      exact ⟨a, c, rfl, own_base r (tv.trans' t).size, (tv.trans' t).trans' t2⟩)
  have k0 : Touch [] V V.drew := (Touch.refl _ _).drew
  have HS : Hid (w.heap.size < V.heap.size) := hid (block_lt hvb)
  clear h tv hvb hn
  clear hf hl'
  unfold bxN at hV
  unfold PT at *
  go_enter Try.func30, Try.ntmps30
  go_upto_region 1 with fail
  rw [← hV]
  clear hV
  go_upto_region 3 with fail
  refine wp_region_L (S := fun w' => Touch [] V w') (st := 7) (by kernel_rfl) ?_
  refine wpL_take (i := 0) (v := (.pointer (some ⟨s, 0, none⟩))) (some 8) rfl rfl (by kernel_rfl) (by kernel_rfl) (by kernel_rfl) (by kernel_rfl) (by kernel_rfl) (by decide) (fun _ _ _ h => h) (Or.inl ⟨by rfl, fun w' hS => (by go_simp)⟩) k0 ?_
  try simp only [Go.Act.put, List.setIfInBounds_toArray, List.set_cons_zero, List.set_cons_succ]
  refine wpL_take (i := 1) (v := (.pointer (some ⟨s, 0, none⟩))) (some 9) rfl rfl (by kernel_rfl) (by kernel_rfl) (by kernel_rfl) (by kernel_rfl) (by kernel_rfl) (by decide) (fun _ _ _ h => h) (Or.inl ⟨by rfl, fun w' hS => (by go_simp)⟩) k0 ?_
  try simp only [Go.Act.put, List.setIfInBounds_toArray, List.set_cons_zero, List.set_cons_succ]
  refine wpL_take (i := 2) (v := (.pointer (some ⟨s, 1, none⟩))) (some 10) rfl rfl (by kernel_rfl) (by kernel_rfl) (by kernel_rfl) (by kernel_rfl) (by kernel_rfl) (by decide) (fun _ _ _ h => h) (Or.inl ⟨by rfl, fun w' hS => (by go_simp)⟩) k0 ?_
  try simp only [Go.Act.put, List.setIfInBounds_toArray, List.set_cons_zero, List.set_cons_succ]
  refine wpL_take (i := 3) (v := (.map mr)) (some 11) rfl rfl (by kernel_rfl) (by kernel_rfl) (by kernel_rfl) (by kernel_rfl) (by kernel_rfl) (by decide) (fun _ _ _ h => h) (Or.inl ⟨by rfl, fun w' hS => (by have z0 := M1 _ hS; go_simp)⟩) k0 ?_
  try simp only [Go.Act.put, List.setIfInBounds_toArray, List.set_cons_zero, List.set_cons_succ]
  refine wpL_take (i := 4) (v := (.agg #[.int .i64 (k : Int), .int .i64 n])) (some 12) rfl rfl (by kernel_rfl) (by kernel_rfl) (by kernel_rfl) (by kernel_rfl) (by kernel_rfl) (by decide) (fun _ _ _ h => h) (Or.inl ⟨by rfl, fun w' hS => (by have z0 := B0 _ hS; have z1 := B1 _ hS; go_simp)⟩) k0 ?_
  try simp only [Go.Act.put, List.setIfInBounds_toArray, List.set_cons_zero, List.set_cons_succ]
  refine wpL_take (i := 5) (v := (.agg #[.pointer f, .pointer l])) (some 13) rfl rfl (by kernel_rfl) (by kernel_rfl) (by kernel_rfl) (by kernel_rfl) (by kernel_rfl) (by decide) (fun _ _ _ h => h) (Or.inl ⟨by rfl, fun w' hS => (by have z0 := L0 _ hS; go_simp)⟩) k0 ?_
  try simp only [Go.Act.put, List.setIfInBounds_toArray, List.set_cons_zero, List.set_cons_succ]
  refine wpL_ready (rs := [6]) (by kernel_rfl) (by simp) (AllL.cons (o := { dst := some 5, op := Op.alloc 82, type := 0, pos := _, after := #[], guard := none }) rfl (fun K' hK => ?_) AllL.nil)
  rw [if_pos (by rfl)]
  go_simp
  refine hK.out _ _ (fun _ => ((Touch.refl _ _).alloc _).drew) ?_
  clear hK
  try simp only [Go.Act.put, List.setIfInBounds_toArray, List.set_cons_zero, List.set_cons_succ]
  refine wpL_ready (rs := [7]) (by kernel_rfl) (by simp) (AllL.cons (o := { dst := none, op := Op.store 82 (Operand.tmp 5) (Operand.tmp 13), type := 0, pos := _, after := #[{ on := 6, ground := Ground.data }, { on := 5, ground := Ground.data }, { on := 0, ground := Ground.phase }, { on := 1, ground := Ground.phase }, { on := 2, ground := Ground.phase }, { on := 3, ground := Ground.phase }, { on := 4, ground := Ground.phase }, { on := 5, ground := Ground.phase }, { on := 6, ground := Ground.phase }], guard := none }) rfl (fun K' hK => ?_) AllL.nil)
  rw [if_pos (by rfl)]
  go_simp
  refine hK.out _ _ (fun h => absurd h (by decide)) ?_
  clear hK
  try simp only [Go.Act.put, List.setIfInBounds_toArray, List.set_cons_zero, List.set_cons_succ]
  refine wpL_done (by kernel_rfl) ?_ _
  have k5 : Touch [] V (V.alloc (.cells #[.pointer f, .pointer l] 82)).drew := ((Touch.refl _ _).alloc _).drew
  have HK := hid (HC.out _ k5 (heap_alloc_new V _))
  have b0 := B0 _ k5
  clear M1 B0 B1 L0 k0 k5 HC
  generalize (V.alloc (.cells #[.pointer f, .pointer l] 82)).drew = W at *
  go_wp2_with (go_at_call 38; refine HK.out.mono ?_; rintro e w2 ⟨a2, c2, rfl, r2, t2⟩; have RR := hid (And.intro r2 t2); clear r2 t2)
  go_ret
  exact ⟨a2, c2, rfl, RR.out.1, RR.out.2⟩
end
theorem mkI (w : World) (n : Nat) (h : n ≤ 5000000000000) : (Instr.makeSlice 23 (.int .i64 (n : Int)) (.int .i64 (n : Int))).run Try.prog w = .ok (.slice (some ⟨w.heap.size, 0, none⟩) n n) (w.alloc (.cells (madeCells #[.int .i64 0] n) 3)) := by
  obtain ⟨i3, hi3, hz0, hz1, hz2⟩ := info_parts info3
  have := run_make (P := Try.prog) w 23 3 i3 _ Try.underlying23 hi3 hz0 .i64 .i64 (n : Int) (n : Int) (by omega) (by omega) (by rw [hz2]; omega) (by omega)
  rw [hz1] at this
  simpa [Value.cells] using this
theorem seat_cells {w : World} {B t g n c i : Nat} {ys : List Se} {y : Se} (h : w.ownsRow B t 3 (.slice (some ⟨g, 0, none⟩) n c) n (ys.flatMap sc)) (hy : ys[i]? = some y) : w.cell? ⟨g, i * 3, none⟩ = some (.int .i64 y.1) ∧ w.cell? ⟨g, i * 3 + 1, none⟩ = some (.int .i64 y.2.1) ∧ w.cell? ⟨g, i * 3 + 2, none⟩ = some (.int .i64 y.2.2) := by
  have q := fun j hj => flat_at (f := sc) (k := 3) sc_len ys i j y hy hj
  exact ⟨own_cell h (p := i * 3) (q 0 (by omega)), own_cell h (p := i * 3 + 1) (q 1 (by omega)), own_cell h (p := i * 3 + 2) (q 2 (by omega))⟩
/-- A slice of numbers is told. -/
def IlE (e : Ending) (w w' : World) (zs : List Int) : Prop := ∃ a n c, e = .returned (.slice a n c) ∧ Rs 3 1 w' (.slice a n c) zs.length (ints zs) ∧ Touch [] w w'
structure CaS (w wr : World) (t : Nat) (ys : List Se) (j : Nat) : Prop where
  bl : ∃ cur, wr.heap[t]? = some (.cells cur 3 (0, 0)) ∧ cur.size = ys.length ∧ ∀ i y, i < j → ys[i]? = some y → cur[i]? = some (.int .i64 y.1)
  tc : Touch [] w wr
theorem CaS.step {w wr : World} {t j : Nat} {ys : List Se} {y : Se} (h : CaS w wr t ys j) (ht : w.heap.size ≤ t) (hy : ys[j]? = some y) (ob : Obj) : CaS w ((wr.alloc ob).setCell ⟨t, j, none⟩ (.int .i64 y.1)) t ys (j + 1) := by
  obtain ⟨⟨cur, hb, hs, hc⟩, tc⟩ := h
  have hj := (List.getElem?_eq_some_iff.1 hy).1
  refine ⟨⟨_, bset (((Touch.refl [] wr).alloc ob).keep hb (by simp)) _, by simp [hs], fun i z hi hz => ?_⟩, (tc.alloc ob).setCell (Or.inr ht) _⟩
  rw [Array.getElem?_setIfInBounds]
  by_cases e : i = j
  · subst e
    rw [hy] at hz
    cases hz
    rw [if_pos rfl, if_pos (by omega)]
  · rw [if_neg (fun q => e q.symm)]
    exact hc i z (by omega) hz
theorem CaS.fin {w wr : World} {t : Nat} {ys : List Se} (h : CaS w wr t ys ys.length) : IlE (.returned (.slice (some ⟨t, 0, none⟩) ys.length ys.length)) w wr (ys.map Prod.fst) := by
  obtain ⟨⟨cur, hb, hs, hc⟩, tc⟩ := h
  refine ⟨_, _, _, rfl, ⟨by simp [ints], _, _, by rw [List.length_map], by simp, fun e => (by cases e), fun hp => ⟨t, 0, rfl, cur, _, hb, fun j u hu => ?_⟩⟩, tc⟩
  rw [Nat.zero_add]
  unfold ints at hu
  rw [List.getElem?_map, List.getElem?_map] at hu
  cases hy : ys[j]? with
  | none => rw [hy] at hu; cases hu
  | some y =>
    rw [hy] at hu
    simp only [Option.map_some, Option.some.injEq] at hu
    rw [← hu]
    exact hc j y (List.getElem?_eq_some_iff.1 hy).1 hy
set_option maxHeartbeats 4000000 in
theorem callers_ (w : World) (v : Value) (ys : List Se) (B : Nat) (h : w.ownsRow B 33 3 v ys.length (ys.flatMap sc)) (hle : ys.length ≤ 5000000000000) : Calls Try.prog 29 #[v] w fun e w' => IlE e w w' (ys.map Prod.fst) := by
  obtain ⟨a, c, rfl⟩ := own_form h
  obtain ⟨n, hn⟩ : ∃ n, n = ys.length := ⟨_, rfl⟩
  have hmk := mkI w n (by omega)
  obtain ⟨V, hV⟩ : ∃ V, V = w.alloc (.cells (madeCells #[.int .i64 0] n) 3) := ⟨_, rfl⟩
  have H0 : Hid (CaS w V w.heap.size ys 0) := hid (by rw [hV]; exact ⟨⟨_, heap_alloc_new w _, by rw [size_madeCells, hn], fun i y hi => absurd hi (Nat.not_lt_zero _)⟩, (Touch.refl _ _).alloc _⟩)
  have HG : Hid (∀ w', Touch [] w w' → ∀ i y, ys[i]? = some y → ∃ g, a = some ⟨g, 0, none⟩ ∧ w'.cell? ⟨g, i * 3, none⟩ = some (.int .i64 y.1) ∧ w'.cell? ⟨g, i * 3 + 1, none⟩ = some (.int .i64 y.2.1) ∧ w'.cell? ⟨g, i * 3 + 2, none⟩ = some (.int .i64 y.2.2)) := hid (fun w' t i y hy => by
    have h2 := own_touch h t (fun _ _ e => by cases e)
    obtain ⟨g, c', e, _, _⟩ := own_some h2 (by have := (List.getElem?_eq_some_iff.1 hy).1; omega)
    simp only [Value.slice.injEq, true_and] at e
    obtain ⟨rfl, rfl⟩ := e
    exact ⟨g, rfl, seat_cells h2 hy⟩)
  have HE : Hid (∀ w', CaS w w' w.heap.size ys n → IlE (.returned (.slice (some ⟨w.heap.size, 0, none⟩) n n)) w w' (ys.map Prod.fst)) := hid (fun w' r => by rw [hn] at r ⊢; exact r.fin)
  have HST : Hid (∀ wr j y ob, CaS w wr w.heap.size ys j → ys[j]? = some y → CaS w ((wr.alloc ob).setCell ⟨w.heap.size, j, none⟩ (.int .i64 y.1)) w.heap.size ys (j + 1)) := hid (fun wr j y ob r hy => r.step (Nat.le_refl _) hy ob)
  have HLE := hid hle
  have HN := hid hn
  rw [← hn]
  clear h hle hn
  go_enter Try.func29, Try.ntmps29
  go_upto_region 2 with fail
  rw [← hV]
  clear hV hmk
  obtain ⟨t, ht⟩ : ∃ t, t = w.heap.size := ⟨_, rfl⟩
  rw [← ht] at H0 HE HST ⊢
  clear ht
  go_wp2
  go_loopw [11] (fun i wr => ∃ j : Nat, i = .int .i64 (j : Nat) ∧ j ≤ n ∧ Hid (CaS w wr t ys j)) (fun i _ => n - (intOf i).toNat)
  case atStart => exact ⟨0, rfl, Nat.zero_le _, H0⟩
  case round =>
    clear H0
    obtain ⟨j, rfl, hj, HR⟩ := hrel
    by_cases hlt : j < n
    · have zk : (j : Int) < (n : Int) := by omega
      have zL : (n : Int) < 9223372036854775807 := by have := HLE.out; have := HN.out; omega
      obtain ⟨y, hy⟩ : ∃ y, ys[j]? = some y := ⟨_, List.getElem?_eq_getElem (by have := HN.out; omega)⟩
      obtain ⟨g, rfl, e0, e1, e2⟩ := HG.out wr HR.out.tc j y hy
      obtain ⟨z0, ct, ft⟩ : ∃ z, (wr.alloc (.cells #[.int .i64 y.1, .int .i64 y.2.1, .int .i64 y.2.2] 33)).cell? ⟨t, j, none⟩ = some z ∧ ∀ i, (wr.alloc (.cells #[.int .i64 y.1, .int .i64 y.2.1, .int .i64 y.2.2] 33)).frozen? ⟨t, i, none⟩ = false := by
        obtain ⟨⟨cur, hb, hs, hc⟩, tc⟩ := HR.out
        have hb' := ((Touch.refl [] wr).alloc (.cells #[.int .i64 y.1, .int .i64 y.2.1, .int .i64 y.2.2] 33)).keep hb (by simp)
        have hj' : j < cur.size := by rw [hs, ← HN.out]; exact hlt
        exact ⟨_, cell_at hb' (Array.getElem?_eq_getElem hj'), froz_at hb'⟩
      have HNX := hid (HST.out wr j y (.cells #[.int .i64 y.1, .int .i64 y.2.1, .int .i64 y.2.2] 33) HR.out hy)
      clear hy HR
      go_wp2
      go_roundw
      case rel => exact ⟨j + 1, by go_num, by omega, HNX⟩
      case measure => simp [intOf]; omega
    · have e' : j = n := by omega
      subst e'
      have HZ := hid (HE.out _ HR.out)
      clear hj hlt
      go_wp2
      go_ret
      exact HZ.out
end Go.Proofs.Ytlmmljmhfghlnaa
