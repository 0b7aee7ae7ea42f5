/- The list of keys that the law KeyLists is handed, opened; and the law's walk at every list; no conditions but the form's reach. -/
import Derived.Test.YtbaljfkjgfkdiaaDoorSto
import Derived.Test.YtbaljfkjgfkdiaaDoorLaid
import Derived.Deep.SlicePairs
import Derived.SizedLaws
import Derived.Carry
namespace Go.Proofs.YtbaljfkjgfkdiaaDoor
open Go.RowKit Go.Sort Go.Maps Go.WideMaps
set_option linter.unusedVariables false

set_option maxHeartbeats 4000000 in
theorem lists_empty' (ad : Addr) (cap : Nat) (w : World) (hS : SortedOk []) :
    Calls Tryd.prog 6 #[.slice (some ad) 0 cap] w fun e w' => e = .returned (.bool true) ∧ Below w.heap.size w w' := by
  obtain ⟨i4, hi4, hz40, hz41, hz42⟩ := info_parts info24
  obtain ⟨xs, hxs⟩ : ∃ xs : List K, xs = [] := ⟨_, rfl⟩
  have HSL : Hid (Sl w (.slice (some ad) 0 cap) xs) := Or.inl ⟨hxs, _, _, rfl⟩
  have HNm : Hid (Oks xs) := by rw [hxs]; exact fun x h => by cases h
  have HS : Hid (SortedOk xs) := by rw [hxs]; exact hS
  have HL : Hid (xs.length * 24 ≤ 140737488351232) := by rw [hxs]; show _ ≤ _; simp
  have HXS : Hid _ := hxs
  clear hS hxs
  go_enter Tryd.func6, Tryd.ntmps6
  go_wp2_with (at_builtin; refine wpList_append_own _ rfl _ _ 52 rfl w.heap.size 24 i4 (.agg #[.int .u16 0, .string ⟨#[]⟩]) 2 24 Tryd.underlying52 hi4 hz40 hz41 hz42 rfl (by decide) _ 0 [] rfl ⟨rfl, Or.inr ⟨w.heap.size, 0, #[], rfl, Nat.le_refl _, heap_alloc_new w _, Nat.le_refl _, by unfold maxLen; omega, rfl, rfl⟩⟩ ad 0 cap [] rfl rfl (fun j u h => by cases h) (fun u h => by cases h) (by unfold maxLen; omega) (by omega) (by simp) ?_; intro vin w1 hown hgrow hn)
  have B1 : Hid (Below w.heap.size w w1) := ((Below.refl _ _).alloc (Nat.le_refl _) _).grown hgrow (by simp) (fun j hj => by
    have h2 : some w.heap.size = some j := hj
    cases h2
    exact Nat.le_refl _)
  have SI : Hid (Sl w1 vin xs) := by
    show Sl _ _ _
    refine Or.inl ⟨HXS.out, ?_⟩
    obtain ⟨_, h2 | ⟨g, cc, cur, hv, _⟩⟩ := hown
    · exact ⟨_, _, h2.1⟩
    · exact ⟨_, _, hv⟩
  clear hown hgrow hn
  clear hi4 hz40 hz41 hz42
  have C1 : Hid (Below w1.heap.size w1 w1) := Below.refl _ _
  go_wp2_with fail
  refine Calls.mono (awake9 _) ?_
  rintro e w2 ⟨rfl, g2⟩
  have C2 : Hid (Below w1.heap.size w1 w2) := C1.out.trans ((g2.below).mono C1.out.size)
  clear g2
  go_wp2_with fail
  refine Calls.mono (HS.out _ vin (SI.out.below C2.out)) ?_
  rintro e w3 ⟨vs, ys, rfl, sY, pY, oY, b3⟩
  have C3 : Hid (Below w1.heap.size w1 w3) := C2.out.trans ((b3).mono C2.out.size)
  have SY : Hid (Sl w3 vs ys) := sY
  have PY : Hid (ys.Perm xs ∧ ys.Pairwise leK) := ⟨pY, oY⟩
  clear b3 sY pY oY
  go_wp2_with fail
  refine Calls.mono (all27 xs (.slice (some ad) 0 cap) _ HL.out (HSL.out.below (B1.out.trans (C3.out.mono B1.out.size)))) ?_
  rintro e w4 ⟨va, rfl, sA, b4⟩
  have C4 : Hid (Below w1.heap.size w1 w4) := C3.out.trans ((b4).mono C3.out.size)
  have SY4 : Hid (Sl w4 vs ys) := SY.out.below b4
  have SA : Hid (Sl w4 va xs) := sA
  clear b4 sA SY
  go_wp2_with fail
  refine Calls.mono (ref26 xs va _ HL.out HNm.out.names SA.out) ?_
  rintro e w5 ⟨vz, zs, rfl, sZ, pZ, oZ, b5⟩
  have C5 : Hid (Below w1.heap.size w1 w5) := C4.out.trans ((b5).mono C4.out.size)
  obtain rfl : ys = zs := sorted_unique ys zs (PY.out.1.trans pZ.symm) PY.out.2 oZ
  have SY5 : Hid (Sl w5 vs ys) := SY4.out.below b5
  have SZ : Hid (Sl w5 vz ys) := sZ
  have HYL : Hid (ys.length = xs.length) := PY.out.1.length_eq
  clear b5 sZ pZ oZ SY4 SA
  go_wp2_with fail
  refine Calls.mono (same24 ys vs vz _ (by have := HYL.out; have := HL.out; omega) SY5.out SZ.out) ?_
  rintro e w6 ⟨rfl, g6⟩
  have C6 : Hid (Below w1.heap.size w1 w6) := C5.out.trans ((g6.below).mono C5.out.size)
  clear g6 SY5 SZ PY HYL
  go_wp2_with fail
  refine Calls.mono (all27 xs (.slice (some ad) 0 cap) _ HL.out (HSL.out.below (B1.out.trans (C6.out.mono B1.out.size)))) ?_
  rintro e w7 ⟨va1, rfl, sA, b7⟩
  have C7 : Hid (Below w1.heap.size w1 w7) := C6.out.trans ((b7).mono C6.out.size)
  have SA : Hid (Sl w7 va1 xs) := sA
  clear b7 sA
  go_wp2_with fail
  refine Calls.mono (same24 xs vin va1 _ (by have := HL.out; omega) (SI.out.below C7.out) SA.out) ?_
  rintro e w8 ⟨rfl, g8⟩
  have C8 : Hid (Below w1.heap.size w1 w8) := C7.out.trans ((g8.below).mono C7.out.size)
  clear g8 SA
  go_wp2_with fail
  refine Calls.mono (all27 xs (.slice (some ad) 0 cap) _ HL.out (HSL.out.below (B1.out.trans (C8.out.mono B1.out.size)))) ?_
  rintro e w9 ⟨va2, rfl, sA, b9⟩
  have C9 : Hid (Below w1.heap.size w1 w9) := C8.out.trans ((b9).mono C8.out.size)
  have SA : Hid (Sl w9 va2 xs) := sA
  clear b9 sA
  go_wp2_with fail
  refine Calls.mono (ref28 xs va2 _ HL.out SA.out) ?_
  rintro e w10 ⟨vu, rfl, sU, b10⟩
  have C10 : Hid (Below w1.heap.size w1 w10) := C9.out.trans ((b10).mono C9.out.size)
  have SU : Hid (Sl w10 vu (unl [] xs)) := sU
  clear b10 sU SA
  go_wp2_with fail
  refine Calls.mono (unlike29 xs vin _ HL.out HNm.out (SI.out.below C10.out)) ?_
  rintro e w11 ⟨vk, rfl, sK, b11⟩
  have C11 : Hid (Below w1.heap.size w1 w11) := C10.out.trans ((b11).mono C10.out.size)
  have SU11 : Hid (Sl w11 vu (unl [] xs)) := SU.out.below b11
  have SK : Hid (Sl w11 vk (unl [] xs)) := sK
  clear b11 sK SU
  go_wp2_with fail
  refine Calls.mono (same24 (unl [] xs) vk vu _ (by have := unl_len [] xs; have := HL.out; simp only [List.length_nil] at *; omega) SK.out SU11.out) ?_
  rintro e w12 ⟨rfl, g12⟩
  have C12 : Hid (Below w1.heap.size w1 w12) := C11.out.trans ((g12.below).mono C11.out.size)
  have SU12 : Hid (Sl w12 vu (unl [] xs)) := SU11.out.gr g12
  clear g12 SK SU11
  go_wp2_with fail
  refine Calls.mono (all27 xs (.slice (some ad) 0 cap) _ HL.out (HSL.out.below (B1.out.trans (C12.out.mono B1.out.size)))) ?_
  rintro e w13 ⟨va3, rfl, sA, b13⟩
  have C13 : Hid (Below w1.heap.size w1 w13) := C12.out.trans ((b13).mono C12.out.size)
  have SU13 : Hid (Sl w13 vu (unl [] xs)) := SU12.out.below b13
  have SA : Hid (Sl w13 va3 xs) := sA
  clear b13 sA SU12
  go_wp2_with fail
  refine Calls.mono (same24 xs vin va3 _ (by have := HL.out; omega) (SI.out.below C13.out) SA.out) ?_
  rintro e w14 ⟨rfl, g14⟩
  have C14 : Hid (Below w1.heap.size w1 w14) := C13.out.trans ((g14.below).mono C13.out.size)
  have SU14 : Hid (Sl w14 vu (unl [] xs)) := SU13.out.gr g14
  clear g14 SA SU13
  go_wp2_with fail
  refine Calls.mono (count30 xs vin _ HL.out HNm.out (SI.out.below C14.out)) ?_
  rintro e w15 ⟨vc, rfl, sC, b15⟩
  have C15 : Hid (Below w1.heap.size w1 w15) := C14.out.trans ((b15).mono C14.out.size)
  have SU15 : Hid (Sl w15 vu (unl [] xs)) := SU14.out.below b15
  have SC : Hid (SlI w15 vc (counts (unl [] xs) xs)) := sC
  clear b15 sC SU14
  obtain ⟨au, cu, rfl⟩ : ∃ au cu, vu = .slice au 0 cu := by
    rcases SU15.out with ⟨_, h⟩ | ⟨bb, oo, cc, h, _⟩
    · exact h
    · rw [HXS.out] at h
      exact ⟨_, _, h⟩
  obtain ⟨ac, cc, rfl⟩ : ∃ ac cc, vc = .slice ac 0 cc := by
    rcases SC.out with ⟨_, h⟩ | ⟨bb, cc, h, _⟩
    · exact h
    · rw [HXS.out] at h
      exact ⟨_, _, h⟩
  clear SU15 SC HS
  go_wp2_with fail
  refine Calls.mono (all27 xs (.slice (some ad) 0 cap) _ HL.out (HSL.out.below (B1.out.trans (C15.out.mono B1.out.size)))) ?_
  rintro e w16 ⟨va4, rfl, sA, b16⟩
  have C16 : Hid (Below w1.heap.size w1 w16) := C15.out.trans (b16.mono C15.out.size)
  have SA : Hid (Sl w16 va4 xs) := sA
  clear b16 sA
  go_wp2_with fail
  refine Calls.mono (same24 xs vin va4 _ (by have := HL.out; omega) (SI.out.below C16.out) SA.out) ?_
  rintro e w17 ⟨rfl, g17⟩
  have C17 : Hid (Below w1.heap.size w1 w17) := C16.out.trans (g17.below.mono C16.out.size)
  have B17 : Hid (Below w.heap.size w w17) := B1.out.trans (C17.out.mono B1.out.size)
  clear g17 SA C16 C17
  go_wp2_with fail
  go_loop [63] (fun i => i = .int .i64 0) (fun _ => 0)
  case atStart => rfl
  case round =>
    subst hrel
    go_wp2
    go_ret
    exact ⟨rfl, B17.out⟩

theorem oks_nil : Oks [] := by intro x h; cases h
theorem cells22 : Tryd.prog.cellsOf 22 = 1 := by kernel_rfl
theorem cells9 : Tryd.prog.cellsOf 9 = 1 := by kernel_rfl
set_option maxRecDepth 100000 in
open Go.ChangeShapes Go.WideShapes Go.ChangeAt in
theorem open_keys {H : Type} {enc : TypeId × Value → H} {W : World} {b0 : Nat} {v : Value} {d : DataW H} {p : List MemPlace} (hv : Value.okWide Tryd.prog W .any b0 52 v) (h : DataW.Trod enc Tryd.prog W 0 (fun _ => true) true 52 v d p) :
    ∃ xs : List K, Oks xs ∧ ((v = .slice none 0 0 ∧ xs = []) ∨ (∃ ad cap, v = .slice (some ad) 0 cap ∧ xs = []) ∨ ∃ b off cap, v = .slice (some ⟨b, off, none⟩) xs.length cap ∧ Row W b off xs) ∧ (xs = [] ∨ ∃ elems spare, d = .slice elems spare ∧ elems.length = xs.length) := by
  obtain ⟨a, len, cap, rfl⟩ := okWide_slice Tryd.underlying52 hv
  obtain ⟨fuel, hf⟩ := h
  rcases Deep.open_slice_pairs Tryd.underlying52 Tryd.underlying24 cells24 rfl rfl cells22 cells9 hf with ⟨hcs, _⟩ | ⟨x, l, c, m, n, V0, V1, D0, D1, P0, P1, hcs, _, hl, hm, hmm, hx, hall⟩
  · simp [Value.cells] at hcs
    obtain ⟨rfl, rfl, rfl⟩ := hcs
    exact ⟨[], oks_nil, Or.inl ⟨rfl, rfl⟩, Or.inl rfl⟩
  · simp [Value.cells] at hcs
    obtain ⟨rfl, rfl, rfl⟩ := hcs
    simp only [if_true] at hmm
    subst hmm
    simp only [Prod.mk.injEq] at hx
    obtain ⟨rfl, rfl⟩ := hx
    have each : ∀ i, i < m → ∃ q : K, V0 i = .int .u16 q.1 ∧ V1 i = .string q.2 ∧ (Lit.int .u16 q.1).wf = true ∧ q.2.size ≤ maxLen := fun i hi => by
      obtain ⟨A, h1, h2, h3⟩ := DataW.trod_int Tryd.underlying22 (hall i hi).2.2.1
      obtain ⟨S, g1, g2, g3⟩ := DataW.trod_string Tryd.underlying9 (hall i hi).2.2.2
      simp only [List.cons.injEq, and_true] at h1 g1
      exact ⟨(A, S), h1, g1, h3, g3⟩
    obtain ⟨q, hq⟩ := Deep.choose_lt each
    rcases Nat.eq_zero_or_pos len with e | e
    · subst e
      exact ⟨[], oks_nil, Or.inr (Or.inl ⟨x, _, rfl, rfl⟩), Or.inl rfl⟩
    · have hsp : x.spot = none := by
        have h0 := (hall 0 (by omega)).1
        rw [show x.add (0 * 2) = x by simp [Addr.add]] at h0
        unfold World.cell? at h0
        split at h0
        · split at h0
          · cases h0
          · rename_i hs
            cases hh : x.spot with
            | none => rfl
            | some z => rw [hh] at hs; exact absurd rfl hs
        · cases h0
      obtain ⟨b, off, r⟩ := x
      obtain rfl : r = none := hsp
      have hlen : ((List.range len).map q).length = len := by simp
      refine ⟨(List.range len).map q, fun y hy => ?_, Or.inr (Or.inr ⟨b, off, m, by rw [hlen], ?_, fun i hi => ?_, fun i hi => ?_⟩), Or.inr ⟨_, _, rfl, by simp⟩⟩
      · obtain ⟨i, hi, rfl⟩ := List.mem_map.1 hy
        have hi' := List.mem_range.1 hi
        exact ⟨(hq i (by omega)).2.2.1, (hq i (by omega)).2.2.2⟩
      · rcases Nat.lt_or_ge b W.heap.size with h | h
        · exact h
        · have h0 := (hall 0 (by omega)).1
          simp [World.cell?, add_plain, Array.getElem?_eq_none h] at h0
      · rw [hlen] at hi
        have h0 := (hall i (by omega)).1
        rw [(hq i (by omega)).1] at h0
        simpa [add_plain] using h0
      · rw [hlen] at hi
        have h0 := (hall i (by omega)).2.1
        rw [(hq i (by omega)).2.1] at h0
        simpa [add_plain, Nat.add_assoc] using h0

theorem walkAll (xs : List K) (v : Value) (w : World) (hl : xs.length * 24 ≤ 140737488351232) (hN : Oks xs) (R : (v = .slice none 0 0 ∧ xs = []) ∨ (∃ ad cap, v = .slice (some ad) 0 cap ∧ xs = []) ∨ ∃ b off cap, v = .slice (some ⟨b, off, none⟩) xs.length cap ∧ Row w b off xs) :
    Calls Tryd.prog 6 #[v] w fun e w' => e = .returned (.bool true) ∧ Below w.heap.size w w' := by
  rcases R with h | ⟨ad, cap, rfl, rfl⟩ | h
  · exact walkL xs v w hl hN (Or.inl h)
  · exact lists_empty' ad cap w (sortedOk [] hl)
  · exact walkL xs v w hl hN (Or.inr h)
end Go.Proofs.YtbaljfkjgfkdiaaDoor
