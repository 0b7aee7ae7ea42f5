/- The contracts of the document's Of, Find, waits, Interest, IsCurrent and Current: they read alone. -/
import Derived.Test.YtpihhlllembdeaaGreatDth
import Derived.Test.YtpihhlllembdeaaGreatHlh
import Derived.Deep.RegionHeld3
namespace Go.Proofs.YtpihhlllembdeaaGreat
open Go.RowKit Go.Maps Go.ChangeMaps
set_option linter.unusedVariables false
set_option linter.unusedSimpArgs false
theorem same_bytes (s t : ByteArray) : (s.toList == t.toList) = decide (s = t) := by
  rw [ByteArray.toList_eq, ByteArray.toList_eq]
  by_cases h : s = t
  · subst h; simp
  · rw [decide_eq_false h]
    simp only [beq_eq_false_iff_ne, ne_eq]
    intro e
    apply h
    cases s; cases t
    simp only [Array.toList_inj] at e
    simp_all
theorem eqK (w : World) (x y : K) : (binOp .eql 68 (.agg #[.int .u16 x.1, .string x.2]) (.agg #[.int .u16 y.1, .string y.2])).run Tryz.prog w = .ok (.bool (decide (x = y))) w := by
  obtain ⟨a, s⟩ := x
  obtain ⟨b, t⟩ := y
  by_cases h1 : a = b
  · by_cases h2 : s = t
    · go_simp
    · have h3 : (s.toList == t.toList) = false := by rw [same_bytes]; exact decide_eq_false h2
      go_simp
  · go_simp
theorem neqK (w : World) (x y : K) : (binOp .neq 68 (.agg #[.int .u16 x.1, .string x.2]) (.agg #[.int .u16 y.1, .string y.2])).run Tryz.prog w = .ok (.bool (decide (x ≠ y))) w := by
  obtain ⟨a, s⟩ := x
  obtain ⟨b, t⟩ := y
  by_cases h1 : a = b
  · by_cases h2 : s = t
    · go_simp
    · have h3 : (s.toList == t.toList) = false := by rw [same_bytes]; exact decide_eq_false h2
      go_simp
  · go_simp
def bxT (T : Tb) (lv gv : Value) : Obj := .cells #[.int .i64 T.fl, .int .i64 T.bg, lv, gv] 31
def bxRK (k : K) : Obj := .cells #[.int .u16 k.1, .string k.2] 68
def bxE (d : De) : Obj := .cells #[.int .i64 d.R.run, .int .i64 d.R.gen, .int .u16 d.R.sp, .string d.R.nm, .bool d.R.rf, .bool d.S.kept, .bool d.S.canc, d.v] 78
/-- The cells of a generation, of a run, in their rows. -/
theorem gr_cells {w : World} {g n c : Nat} {gs : List (K × Int)} (h : w.ownsRow 0 122 3 (.slice (some ⟨g, 0, none⟩) n c) n (gs.flatMap row3)) {i : Nat} {x : K × Int} (hx : gs[i]? = some x) : w.cell? ⟨g, i * 3, none⟩ = some (.int .u16 x.1.1) ∧ w.cell? ⟨g, i * 3 + 1, none⟩ = some (.string x.1.2) ∧ w.cell? ⟨g, i * 3 + 2, none⟩ = some (.int .i64 x.2) := by
  have q := fun j hj => flat_at row3_len gs i j x hx hj
  exact ⟨own_cell h ((q 0 (by omega)).trans rfl), own_cell h ((q 1 (by omega)).trans rfl), own_cell h ((q 2 (by omega)).trans rfl)⟩
structure R8 (w : World) (g p : Nat) (d : De) : Prop where
  c0 : w.cell? ⟨g, p, none⟩ = some (.int .i64 d.R.run)
  c1 : w.cell? ⟨g, p + 1, none⟩ = some (.int .i64 d.R.gen)
  c2 : w.cell? ⟨g, p + 2, none⟩ = some (.int .u16 d.R.sp)
  c3 : w.cell? ⟨g, p + 3, none⟩ = some (.string d.R.nm)
  c4 : w.cell? ⟨g, p + 4, none⟩ = some (.bool d.R.rf)
  c5 : w.cell? ⟨g, p + 5, none⟩ = some (.bool d.S.kept)
  c6 : w.cell? ⟨g, p + 6, none⟩ = some (.bool d.S.canc)
  c7 : w.cell? ⟨g, p + 7, none⟩ = some d.v
theorem lr_cells {w : World} {g n c : Nat} {ds : List De} (h : w.ownsRow 0 78 8 (.slice (some ⟨g, 0, none⟩) n c) n (ds.flatMap row8)) {i : Nat} {d : De} (hx : ds[i]? = some d) : R8 w g (i * 8) d := by
  have q := fun j hj => flat_at row8_len ds i j d hx hj
  exact ⟨own_cell h ((q 0 (by omega)).trans rfl), own_cell h ((q 1 (by omega)).trans rfl), own_cell h ((q 2 (by omega)).trans rfl), own_cell h ((q 3 (by omega)).trans rfl), own_cell h ((q 4 (by omega)).trans rfl), own_cell h ((q 5 (by omega)).trans rfl), own_cell h ((q 6 (by omega)).trans rfl), own_cell h ((q 7 (by omega)).trans rfl)⟩
theorem ofL_skip {gs : List (K × Int)} {k : K} : ∀ {i : Nat}, (∀ j x, j < i → gs[j]? = some x → x.1 ≠ k) → ofL gs k = ofL (gs.drop i) k := by
  induction gs with
  | nil => intro i _; simp
  | cons a r ih =>
    intro i h
    cases i with
    | zero => rfl
    | succ i =>
      rw [ofL_cons, if_neg (h 0 a (by omega) rfl), List.drop_succ_cons]
      exact ih (fun j x hj hx => h (j + 1) x (by omega) (by simpa using hx))
set_option maxHeartbeats 2000000 in
theorem of_ (w : World) (fl bg : Int) (la ga : Option Addr) (ln lc n gc : Nat) (gs : List (K × Int)) (k : K) (hn : n = gs.length) (hl : n ≤ 3000000000000) (h : w.ownsRow 0 122 3 (.slice ga n gc) n (gs.flatMap row3)) :
    Calls Tryz.prog 32 #[.agg #[.int .i64 fl, .int .i64 bg, .slice la ln lc, .slice ga n gc], kv k] w fun e w' => e = .returned (.int .i64 (ofL gs k)) ∧ Touch [] w w' := by
  obtain ⟨V, hV⟩ : ∃ V, V = (w.alloc (.cells #[.int .i64 fl, .int .i64 bg, .slice la ln lc, .slice ga n gc] 31)).alloc (bxRK k) := ⟨_, rfl⟩
  have TV : Hid (Touch [] w V) := by rw [hV]; exact ((Touch.refl _ _).alloc _).alloc _
  have hb : V.heap[w.heap.size + 1]? = some (.cells #[.int .u16 k.1, .string k.2] 68 (0, 0)) := by
    rw [hV]
    have := heap_alloc_new (w.alloc (.cells #[.int .i64 fl, .int .i64 bg, .slice la ln lc, .slice ga n gc] 31)) (bxRK k)
    rwa [World.size_alloc] at this
  have HB : Hid (∀ w', Touch [] V w' → w'.cell? ⟨w.heap.size + 1, 0, none⟩ = some (.int .u16 k.1) ∧ w'.cell? ⟨w.heap.size + 1, 1, none⟩ = some (.string k.2)) := fun w' t => ⟨cell_at (t.keep hb (by simp)) rfl, cell_at (t.keep hb (by simp)) rfl⟩
  have hg : V.cell? ⟨w.heap.size, 3, none⟩ = some (.slice ga n gc) := by rw [hV]; simp [bxRK]
  have HG : Hid (∀ w', Touch [] V w' → w'.ownsRow 0 122 3 (.slice ga n gc) n (gs.flatMap row3)) := fun w' t => own_touch h (TV.out.trans' t) (fun _ _ e => by cases e)
  have HN := hid hn
  have zn : (n : Int) ≤ 3000000000000 := by omega
  clear hn h hb hl
  unfold bxRK at hV
  unfold kv
  go_enter Tryz.func32, Tryz.ntmps32
  go_upto_region 1 with fail
  rw [← hV]
  clear hV
  go_wp2
  go_loopw [10] (fun s10 wr => ∃ (i : Nat), s10 = .int .i64 (i : Int) ∧ i ≤ n ∧ Hid (Touch [] V wr ∧ ∀ j x, j < i → gs[j]? = some x → x.1 ≠ k)) (fun s _ => n - (intOf s).toNat)
  case atStart => exact ⟨0, rfl, Nat.zero_le _, Touch.refl _ _, fun j x hj => by omega⟩
  case round =>
    obtain ⟨i, rfl, hi, HT⟩ := hrel
    by_cases hlt : i < n
    · have zi : (i : Int) < (n : Int) := by omega
      obtain ⟨x, hx⟩ : ∃ x, gs[i]? = some x := ⟨_, List.getElem?_eq_getElem (by have := HN.out; omega)⟩
      have ho := HG.out _ HT.out.1
      obtain ⟨g, c', e, _, _⟩ := own_some ho (by omega)
      cases e
      obtain ⟨r0, r1, r2⟩ := gr_cells ho hx
      obtain ⟨b0, b1⟩ := HB.out _ (HT.out.1.alloc (.cells #[.int .u16 x.1.1, .string x.1.2, .int .i64 x.2] 122))
      have eq := fun w => eqK w x.1 k
      have HNi := hid (And.intro hi hlt)
      by_cases hk : x.1 = k
      · have HP : Hid (ofL gs k = x.2) := hid (by
          rw [ofL_skip HT.out.2, ← List.getElem_cons_drop (h := by have := HN.out; omega)]
          have := List.getElem?_eq_getElem (l := gs) (i := i) (by have := HN.out; omega)
          rw [hx] at this
          rw [← Option.some.inj this, ofL_cons, if_pos hk])
        rw [decide_eq_true hk] at eq
        clear ho hk hx
        go_wp2
        go_ret
        exact ⟨by (rw [HP.out]; rfl), (TV.out.trans' HT.out.1).alloc _⟩
      · have HP : Hid (∀ j y, j < i + 1 → gs[j]? = some y → y.1 ≠ k) := fun j y hj hy => by
          rcases Nat.lt_or_ge j i with e | e
          · exact HT.out.2 j y e hy
          · obtain rfl : j = i := by omega
            rw [hx] at hy
            cases hy
            exact hk
        rw [decide_eq_false hk] at eq
        clear ho hk hx
        go_wp2
        go_roundw
        case rel => exact ⟨i + 1, by go_num, by have := HNi.out; omega, HT.out.1.alloc _, HP.out⟩
        case measure => simp [intOf]; have := HNi.out; omega
    · have zi : (n : Int) ≤ (i : Int) := by omega
      have HP : Hid (ofL gs k = 0) := hid (by
        rw [ofL_skip HT.out.2, List.drop_eq_nil_of_le (by have := HN.out; omega)]
        rfl)
      go_wp2
      go_ret
      exact ⟨by (rw [HP.out]; rfl), TV.out.trans' HT.out.1⟩
set_option maxHeartbeats 2000000 in
theorem find_ (w : World) (fl bg nn : Int) (la ga : Option Addr) (n lc gn gc : Nat) (ds : List De) (hn : n = ds.length) (hl : n ≤ 3000000000000) (h : w.ownsRow 0 78 8 (.slice la n lc) n (ds.flatMap row8)) (hv : ∀ d ∈ ds, ∃ a m c, d.v = .slice a m c) :
    Calls Tryz.prog 35 #[.agg #[.int .i64 fl, .int .i64 bg, .slice la n lc, .slice ga gn gc], .int .i64 nn] w fun e w' => e = .returned (.int .i64 (posN (desOf ds) nn)) ∧ Touch [] w w' := by
  obtain ⟨V, hV⟩ : ∃ V, V = w.alloc (.cells #[.int .i64 fl, .int .i64 bg, .slice la n lc, .slice ga gn gc] 31) := ⟨_, rfl⟩
  have TV : Hid (Touch [] w V) := by rw [hV]; exact (Touch.refl _ _).alloc _
  have hg : V.cell? ⟨w.heap.size, 2, none⟩ = some (.slice la n lc) := by rw [hV]; simp
  have HG : Hid (∀ w', Touch [] V w' → w'.ownsRow 0 78 8 (.slice la n lc) n (ds.flatMap row8)) := fun w' t => own_touch h (TV.out.trans' t) (fun _ _ e => by cases e)
  have HN := hid hn
  have HV := hid hv
  have zn : (n : Int) ≤ 3000000000000 := by omega
  clear hn h hl hv
  go_enter Tryz.func35, Tryz.ntmps35
  go_upto_region 1 with fail
  rw [← hV]
  clear hV
  go_wp2
  go_loopw [10] (fun s10 wr => ∃ (i : Nat), s10 = .int .i64 (i : Int) ∧ i ≤ n ∧ Hid (Touch [] V wr ∧ ∀ j d, j < i → ds[j]? = some d → d.R.run ≠ nn)) (fun s _ => n - (intOf s).toNat)
  case atStart => exact ⟨0, rfl, Nat.zero_le _, Touch.refl _ _, fun j x hj => by omega⟩
  case round =>
    obtain ⟨i, rfl, hi, HT⟩ := hrel
    by_cases hlt : i < n
    · have zi : (i : Int) < (n : Int) := by omega
      obtain ⟨d, hx⟩ : ∃ d, ds[i]? = some d := ⟨_, List.getElem?_eq_getElem (by have := HN.out; omega)⟩
      have ho := HG.out _ HT.out.1
      obtain ⟨g, c', e, _, _⟩ := own_some ho (by omega)
      cases e
      obtain ⟨r0, r1, r2, r3, r4, r5, r6, r7⟩ := lr_cells ho hx
      obtain ⟨va, vm, vc, ev⟩ := HV.out d (List.mem_of_getElem? hx)
      rw [ev] at r7
      have HNi := hid (And.intro hi hlt)
      have hmap : ∀ (j : Nat) (q : Rn × St), (desOf ds)[j]? = some q → ∃ d' : De, ds[j]? = some d' ∧ q.1 = d'.R := fun j q hq => by
        unfold desOf at hq
        rw [List.getElem?_map] at hq
        obtain ⟨d', h1, h2⟩ := Option.map_eq_some_iff.1 hq
        exact ⟨d', h1, by rw [← h2]⟩
      by_cases hk : d.R.run = nn
      · have HP : Hid (posN (desOf ds) nn = (i : Int)) := hid (posN_at (p := (d.R, d.S)) (by unfold desOf; rw [List.getElem?_map, hx]; rfl) hk (fun j q hj hq => by
          obtain ⟨d', h1, h2⟩ := hmap j q hq
          rw [h2]
          exact HT.out.2 j d' hj h1))
        have hk' : (d.R.run == nn) = true := by simp [hk]
        clear ho hk hx ev hmap
        go_wp2
        go_ret
        exact ⟨by (rw [HP.out]; rfl), (TV.out.trans' HT.out.1).alloc _⟩
      · have HP : Hid (∀ j y, j < i + 1 → ds[j]? = some y → y.R.run ≠ nn) := fun j y hj hy => by
          rcases Nat.lt_or_ge j i with e | e
          · exact HT.out.2 j y e hy
          · obtain rfl : j = i := by omega
            rw [hx] at hy
            cases hy
            exact hk
        have hk' : (d.R.run == nn) = false := by simp [hk]
        clear ho hk hx ev hmap
        go_wp2
        go_roundw
        case rel => exact ⟨i + 1, by go_num, by have := HNi.out; omega, HT.out.1.alloc _, HP.out⟩
        case measure => simp [intOf]; have := HNi.out; omega
    · have zi : (n : Int) ≤ (i : Int) := by omega
      have HP : Hid (posN (desOf ds) nn = -1) := hid (posN_neg (fun q hq => by
        obtain ⟨d, hd, rfl⟩ := List.mem_map.1 hq
        obtain ⟨j, hj, e⟩ := List.mem_iff_getElem.1 hd
        exact HT.out.2 j d (by have := HN.out; omega) (by rw [List.getElem?_eq_getElem hj, e])))
      go_wp2
      go_ret
      exact ⟨by (rw [HP.out]; rfl), TV.out.trans' HT.out.1⟩
theorem idx_first {x : Int} : ∀ {l : List Int} {i : Nat}, l[i]? = some x → (∀ j y, j < i → l[j]? = some y → y ≠ x) → l.idxOf x = i
  | [], i, h, _ => by simp at h
  | a :: r, 0, h, _ => by simp at h; subst h; simp
  | a :: r, i + 1, h, hb => by
    simp at h
    have ha : a ≠ x := hb 0 a (by omega) rfl
    have := idx_first h (fun j y hj hy => hb (j + 1) y (by omega) (by simpa using hy))
    rw [List.idxOf_cons, show (a == x) = false by simp [ha], this]
    rfl
/-- Where a caller stands among who wait; -1: it does not. -/
def posW (l : List Int) (x : Int) : Int := if x ∈ l then (l.idxOf x : Nat) else -1
set_option maxHeartbeats 2000000 in
theorem waits_ (w : World) (R : Rn) (S : St) (va : Option Addr) (n vc : Nat) (x : Int) (hn : n = S.who.length) (hl : n ≤ 3000000000000) (h : w.ownsRow 0 3 1 (.slice va n vc) n (ints S.who)) :
    Calls Tryz.prog 40 #[dv8 ⟨R, S, .slice va n vc⟩, .int .i64 x] w fun e w' => e = .returned (.int .i64 (posW S.who x)) ∧ Touch [] w w' := by
  obtain ⟨V, hV⟩ : ∃ V, V = w.alloc (bxE ⟨R, S, .slice va n vc⟩) := ⟨_, rfl⟩
  have TV : Hid (Touch [] w V) := by rw [hV]; exact (Touch.refl _ _).alloc _
  have hg : V.cell? ⟨w.heap.size, 7, none⟩ = some (.slice va n vc) := by rw [hV]; simp [bxE]
  have HG : Hid (∀ i y, S.who[i]? = some y → ∃ g, va = some ⟨g, 0, none⟩ ∧ V.cell? ⟨g, i, none⟩ = some (.int .i64 y)) := fun i y hy => by
    have ho := own_touch h TV.out (fun _ _ e => by cases e)
    have hi := (List.getElem?_eq_some_iff.1 hy).1
    obtain ⟨g, c', e, _, _⟩ := own_some ho (by omega)
    cases e
    exact ⟨g, rfl, own_cell ho (by simp [ints, hy])⟩
  have HN := hid hn
  have zn : (n : Int) ≤ 3000000000000 := by omega
  clear hn h hl
  unfold bxE at hV
  unfold dv8
  simp only at hV ⊢
  go_enter Tryz.func40, Tryz.ntmps40
  go_upto_region 1 with fail
  rw [← hV]
  clear hV
  go_wp2
  go_loopw [10] (fun s10 wr => ∃ (i : Nat), s10 = .int .i64 (i : Int) ∧ i ≤ n ∧ wr = V ∧ Hid (∀ j y, j < i → S.who[j]? = some y → y ≠ x)) (fun s _ => n - (intOf s).toNat)
  case atStart => exact ⟨0, rfl, Nat.zero_le _, rfl, fun j x hj => by omega⟩
  case round =>
    obtain ⟨i, rfl, hi, rfl, HT⟩ := hrel
    by_cases hlt : i < n
    · have zi : (i : Int) < (n : Int) := by omega
      obtain ⟨y, hx⟩ : ∃ y, S.who[i]? = some y := ⟨_, List.getElem?_eq_getElem (by have := HN.out; omega)⟩
      obtain ⟨g, rfl, r0⟩ := HG.out i y hx
      have HNi := hid (And.intro hi hlt)
      by_cases hk : y = x
      · have HP : Hid (posW S.who x = (i : Int)) := hid (by
          unfold posW
          have hm : x ∈ S.who := by rw [← hk]; exact List.mem_of_getElem? hx
          rw [if_pos hm]
          rw [idx_first (by rw [← hk]; exact hx) HT.out])
        have hk' : (y == x) = true := by simp [hk]
        clear hk hx
        go_wp2
        go_ret
        exact ⟨by (rw [HP.out]; rfl), TV.out⟩
      · have HP : Hid (∀ j z, j < i + 1 → S.who[j]? = some z → z ≠ x) := fun j z hj hy => by
          rcases Nat.lt_or_ge j i with e | e
          · exact HT.out j z e hy
          · obtain rfl : j = i := by omega
            rw [hx] at hy
            cases hy
            exact hk
        have hk' : (y == x) = false := by simp [hk]
        clear hk hx
        go_wp2
        go_roundw
        case rel => exact ⟨i + 1, by go_num, by have := HNi.out; omega, trivial, HP⟩
        case measure => simp [intOf]; have := HNi.out; omega
    · have zi : (n : Int) ≤ (i : Int) := by omega
      have HP : Hid (posW S.who x = -1) := hid (by
        unfold posW
        rw [if_neg]
        intro hm
        obtain ⟨j, hj, e⟩ := List.mem_iff_getElem.1 hm
        exact HT.out j x (by have := HN.out; omega) (by rw [List.getElem?_eq_getElem hj, e]) rfl)
      go_wp2
      go_ret
      exact ⟨by (rw [HP.out]; rfl), TV.out⟩
end Go.Proofs.YtpihhlllembdeaaGreat
