/- The contract of the document's Hot; no conditions but those that it states. -/
import Derived.Test.YtbadlkjffelkhaaXdi
import Derived.Test.YtbadlkjffelkhaaHlh
import Derived.Test.YtbadlkjffelkhaaAlh
namespace Go.Proofs.Ytbadlkjffelkhaa.Sk
open Go.RowKit Go.Maps Go.ChangeMaps
set_option maxRecDepth 100000
set_option linter.unusedVariables false
set_option linter.unusedSimpArgs false
theorem cellsK_app3 (A B C : List K) : Un.cellsK A ++ Un.cellsK B ++ Un.cellsK C = Un.cellsK (A ++ B ++ C) := by rw [Un.cellsK_app, Un.cellsK_app]
/-- A part of a row of keys, as it is read. -/
theorem rs_part {w : World} {base e g n c i m : Nat} {L : List K} (h : w.ownsRow base e 2 (.slice (some ⟨g, 0, none⟩) n c) n (Un.cellsK L)) (hn : n = L.length) (hi : i + m ≤ n) : Rs e 2 w (.slice (some ⟨g, i * 2, none⟩) m (c - i)) m (Un.cellsK ((L.drop i).take m)) := by
  obtain ⟨h1, a', c', e', h2, h3, h4⟩ := Rs.of_own h
  cases e'
  refine ⟨by rw [Un.cellsK_len, List.length_take, List.length_drop]; omega, _, _, rfl, by omega, (fun q => by cases q), fun h0 => ?_⟩
  obtain ⟨g', off, e1, cs, z, h5, h6⟩ := h4 (by omega)
  cases e1
  refine ⟨g, i * 2, rfl, cs, z, h5, fun j u hu => ?_⟩
  have hs : L = L.take i ++ ((L.drop i).take m ++ (L.drop i).drop m) := by rw [List.take_append_drop, List.take_append_drop]
  have hc : Un.cellsK L = Un.cellsK (L.take i) ++ (Un.cellsK ((L.drop i).take m) ++ Un.cellsK ((L.drop i).drop m)) := by
    rw [← Un.cellsK_app, ← Un.cellsK_app, ← hs]
  have hl : (Un.cellsK (L.take i)).length = i * 2 := by rw [Un.cellsK_len, List.length_take]; omega
  have := h6 (i * 2 + j) u (by
    rw [hc, List.getElem?_append_right (by omega), hl, show i * 2 + j - i * 2 = j by omega, List.getElem?_append_left (List.getElem?_eq_some_iff.1 hu).1]
    exact hu)
  rwa [Nat.zero_add] at this
section
variable {w w' : World} {G cp : Nat} {Q Cp : Nat → Nat} {X : S}
set_option maxHeartbeats 16000000 in
theorem rhot_ (d : Dq w 0 G cp Q Cp X) (hw : Wf X) {v : Value} {xs : List K} (hs : Un.Sl w v xs) (ho : ∀ x ∈ xs, Ok x) (hl : xs.length * 24 ≤ 140737488351232) (n : Nat) : Calls Try.prog 16 #[dv (.slice (some ⟨G, 0, none⟩) X.r cp) X, .int .i64 n, v] w fun e w' => ∃ (O : List K) (a : Option Addr) (m c : Nat), e = .returned (.slice a m c) ∧ O.Perm (mayL (Un.unl [] xs)) ∧ O.Pairwise (leX X) ∧ m = min n O.length ∧ Rs 50 2 w' (.slice a m c) m (Un.cellsK (O.take m)) ∧ Touch [] w w' := by
  obtain ⟨V, hV⟩ : ∃ V, V = (w.alloc (.cells #[.int .i64 (X.b : Nat), .slice (some ⟨G, 0, none⟩) X.r cp, .int .u64 (X.t : Nat)] 29)).alloc (.cells #[] 50) := ⟨_, rfl⟩
  have TV : Touch [] w V := by rw [hV]; exact ((Touch.refl _ _).alloc _).alloc _
  have hb : V.heap[w.heap.size]? = some (.cells #[.int .i64 (X.b : Nat), .slice (some ⟨G, 0, none⟩) X.r cp, .int .u64 (X.t : Nat)] 29 (0, 0)) := by rw [hV]; exact ((Touch.refl [] _).alloc _).keep (heap_alloc_new w _) (by simp)
  have o0 : V.ownsRow w.heap.size 50 2 (.slice (some ⟨w.heap.size + 1, 0, none⟩) 0 0) 0 (Un.cellsK []) := by
    rw [hV]
    have := World.ownsRow_made (e := 50) (size := 2) (w.alloc (.cells #[.int .i64 (X.b : Nat), .slice (some ⟨G, 0, none⟩) X.r cp, .int .u64 (X.t : Nat)] 29)) (base := w.heap.size) #[] 0 (by simp) (by unfold maxLen; omega) rfl
    rwa [World.size_alloc] at this
  have M0 : ∀ w1, Touch [] V w1 → w1.cell? ⟨w.heap.size, 0, none⟩ = some (.int .i64 (X.b : Nat)) := fun w1 t1 => cell_at (t1.keep hb (by simp)) rfl
  have M1 : ∀ w1, Touch [] V w1 → w1.cell? ⟨w.heap.size, 1, none⟩ = some (.slice (some ⟨G, 0, none⟩) X.r cp) := fun w1 t1 => cell_at (t1.keep hb (by simp)) rfl
  have M2 : ∀ w1, Touch [] V w1 → w1.cell? ⟨w.heap.size, 2, none⟩ = some (.int .u64 (X.t : Nat)) := fun w1 t1 => cell_at (t1.keep hb (by simp)) rfl
  have HRC := hid (fun w1 (t1 : Touch [] V w1) (x : K) (hx : Ok x) => rcount_ (d.keep0 (TV.trans' t1)) hw hx)
  have HUN : Hid (Calls Try.prog 41 #[v] V fun e w1 => ∃ v1, e = .returned v1 ∧ Un.Sl w1 v1 (Un.unl [] xs) ∧ Touch [] V w1) := hid ((Un.ref28 xs v V hl (by
    rcases hs with h | ⟨b, off, cap, hv, hr⟩
    · exact Or.inl h
    · exact Or.inr ⟨b, off, cap, hv, ⟨Nat.lt_of_lt_of_le hr.lt TV.size, fun i hi => by rw [World.cell?_of_block (a := ⟨b, off + i * 2, none⟩) (TV.block b hr.lt (by simp))]; exact hr.at0 i hi, fun i hi => by rw [World.cell?_of_block (a := ⟨b, off + i * 2 + 1, none⟩) (TV.block b hr.lt (by simp))]; exact hr.at1 i hi⟩⟩)).mono (by
    rintro e w1 ⟨v1, rfl, h1, h2⟩
    exact ⟨v1, rfl, h1, Touch.of_below h2⟩))
  obtain ⟨U, hU⟩ : ∃ U, U = Un.unl [] xs := ⟨_, rfl⟩
  have hUl : U.length ≤ xs.length := by rw [hU]; have := Un.unl_len [] xs; simpa using this
  have HUO : Hid (∀ x ∈ U, Ok x) := hid (fun x hx => by
    rw [hU, Un.unl_mem] at hx
    rcases hx with h | h
    · cases h
    · exact ho x h)
  rw [← hU] at HUN ⊢
  have hUb : U.length * 24 ≤ 140737488351232 := by omega
  have HTV := hid TV
  have O0 := hid o0
  have r2 := d.r2
  have hdc : ∀ (a b : K), Ok a → Ok b → ∀ w, Calls Try.prog 42 #[.agg #[.int .u16 a.1, .string a.2], .agg #[.int .u16 b.1, .string b.2]] w fun e w' => e = .returned (.int .i64 (cmpK a.1 a.2 b.1 b.2)) ∧ Touch [] w w' := fun a b ha hb w => (dcmp_ a.1 b.1 a.2 b.2 w ha.2 hb.2).mono (by
    rintro e w' ⟨rfl, h⟩
    exact ⟨rfl, Gr.touch h⟩)
  have HDC := hid hdc
  clear d hs ho hl hU hUl TV hb o0 hdc hw
  unfold kv dv at *
  go_enter Try.func16, Try.ntmps16
  go_upto_region 2 with fail
  rw [← hV]
  clear hV
  go_upto_region 3 with (go_at_call 41; refine HUN.out.mono ?_; rintro e w1 ⟨v1, rfl, S1, T1⟩)
  obtain ⟨a1, c1, rfl, HX1⟩ := Sl_keys S1
  have HX := hid HX1
  have HT1 := hid T1
  clear HUN HX1 S1 T1
  obtain ⟨N, hN⟩ : ∃ N, N = U.length := ⟨_, rfl⟩
  have HN := hid hN
  rw [← hN] at hUb ⊢
  clear hN
  go_wp2
  go_loopw [7, 9] (fun s7 s9 wr => ∃ (i g c m : Nat) (O : List K), i ≤ N ∧ m ≤ i ∧ s9 = .int .i64 i ∧ s7 = .slice (some ⟨g, 0, none⟩) m c ∧ Hid (m = O.length ∧ Touch [] w1 wr ∧ O.Perm (mayL (U.take i)) ∧ O.Pairwise (leX X) ∧ (∀ x ∈ O, Ok x) ∧ wr.ownsRow w.heap.size 50 2 (.slice (some ⟨g, 0, none⟩) m c) m (Un.cellsK O))) (fun _ s9 _ => N - (intOf s9).toNat)
  case atStart => exact ⟨0, _, 0, 0, [], Nat.zero_le _, Nat.le_refl _, rfl, rfl, hid ⟨rfl, Touch.refl _ _, List.Perm.refl _, List.Pairwise.nil, fun x hx => (by cases hx), own_touch O0.out HT1.out (fun _ _ e => by cases e)⟩⟩
  case round =>
    obtain ⟨i, g, c, m, O, hi, hmi, rfl, rfl, HI⟩ := hrel
    by_cases hlt : i < N
    · have zi : (i : Int) < (N : Int) := by omega
      have hik : i < U.length := by have := HN.out; omega
      obtain ⟨kb, off, rfl, -, -⟩ := HX.out w1 (Touch.refl _ _) i hik
      have HTK : Hid (U.take (i + 1) = U.take i ++ [U[i]]) := hid (List.take_succ_eq_append_getElem hik)
      have hok := HUO.out U[i] (List.getElem_mem hik)
      have TW := HT1.out.trans' HI.out.2.1
      have L0 : ∀ w2, Touch [] wr w2 → w2.cell? ⟨kb, off + i * 2, none⟩ = some (.int .u16 U[i].1) := fun w2 t => by
        obtain ⟨b', o', e, h1, h2⟩ := HX.out w2 (HI.out.2.1.trans' t) i hik
        cases e; exact h1
      have L1 : ∀ w2, Touch [] wr w2 → w2.cell? ⟨kb, off + i * 2 + 1, none⟩ = some (.string U[i].2) := fun w2 t => by
        obtain ⟨b', o', e, h1, h2⟩ := HX.out w2 (HI.out.2.1.trans' t) i hik
        cases e; exact h2
      have N0 : ∀ w2, Touch [] wr w2 → w2.cell? ⟨w.heap.size, 0, none⟩ = some (.int .i64 (X.b : Nat)) := fun w2 t => M0 w2 (TW.trans' t)
      have N1 : ∀ w2, Touch [] wr w2 → w2.cell? ⟨w.heap.size, 1, none⟩ = some (.slice (some ⟨G, 0, none⟩) X.r cp) := fun w2 t => M1 w2 (TW.trans' t)
      have N2 : ∀ w2, Touch [] wr w2 → w2.cell? ⟨w.heap.size, 2, none⟩ = some (.int .u64 (X.t : Nat)) := fun w2 t => M2 w2 (TW.trans' t)
      obtain ⟨x, hx⟩ : ∃ x, x = U[i] := ⟨_, rfl⟩
      rw [← hx] at HTK hok L0 L1
      have HRX := hid (fun w2 (t : Touch [] wr w2) => HRC.out w2 (TW.trans' t) x hok)
      have HRO := hid (fun w2 (t : Touch [] wr w2) (y : K) (hy : Ok y) => HRC.out w2 (TW.trans' t) y hy)
      have HDX := hid (fun (y : K) (hy : Ok y) => HDC.out y x hy hok)
      have HW1 := hid HI.out.2.1
      have l1 := L1 wr (Touch.refl _ _)
      have HL0 := hid L0
      have HL1 := hid L1
      have HN0 := hid N0
      have HN1 := hid N1
      have HN2 := hid N2
      have hzN : (N : Int) ≤ 5864062014634 := by omega
      clear hx HX hik HUO HRC HDC TW M0 M1 M2 L0 L1 N0 N1 N2
      by_cases h64 : x.2.size ≤ 64
      · have z6 : ¬ (64 : Int) < (x.2.size : Int) := by omega
        have HMY : Hid (mayL (U.take (i + 1)) = mayL (U.take i) ++ [x]) := hid (by rw [HTK.out]; simp [mayL, h64])
        clear HTK h64
        obtain ⟨wo, hwo⟩ : ∃ wo, wo = wr := ⟨_, rfl⟩
        rw [← hwo] at HRX HRO HI HW1 HL0 HL1 HN0 HN1 HN2
        go_wp2
        rw [← hwo]
        clear hwo l1 z6
        go_loopw [10] (fun s10 wq => ∃ tt : Nat, tt ≤ m ∧ s10 = .int .i64 tt ∧ Touch [] wo wq ∧ Hid (∀ j (hj : j < O.length), j < tt → cmpH (hvX X O[j]) (hvX X x) < 0)) (fun s10 _ => m - (intOf s10).toNat)
        case atStart => exact ⟨0, Nat.zero_le _, rfl, Touch.refl _ _, hid (fun j _ h => absurd h (Nat.not_lt_zero _))⟩
        case round =>
          obtain ⟨tt, htt, rfl, TQ, HJ⟩ := hrel
          by_cases htm : tt < m
          · have zt : (tt : Int) < (m : Int) := by omega
            have hto : tt < O.length := by have := HI.out.1; omega
            have hyo := HI.out.2.2.2.2.1 O[tt] (List.getElem_mem hto)
            have A0 : ∀ w2, Touch [] wo w2 → w2.cell? ⟨g, tt * 2, none⟩ = some (.int .u16 O[tt].1) := fun w2 t => own_cell (own_touch HI.out.2.2.2.2.2 t (fun _ _ e => by cases e)) (Un.cellsK_at0 O tt hto)
            have A1 : ∀ w2, Touch [] wo w2 → w2.cell? ⟨g, tt * 2 + 1, none⟩ = some (.string O[tt].2) := fun w2 t => own_cell (own_touch HI.out.2.2.2.2.2 t (fun _ _ e => by cases e)) (Un.cellsK_at1 O tt hto)
            have HJ1 : Hid (cmpH (hvX X O[tt]) (hvX X x) < 0 → ∀ j (hj : j < O.length), j < tt + 1 → cmpH (hvX X O[j]) (hvX X x) < 0) := hid (fun h0 j hj hjt => by
              by_cases e : j = tt
              · subst e; exact h0
              · exact HJ.out j hj (by omega))
            have HJ2 : Hid (¬ cmpH (hvX X O[tt]) (hvX X x) < 0 → (O.take tt ++ [x] ++ O.drop tt).Pairwise (leX X)) := hid (fun h0 => insX_sorted HI.out.2.2.2.1 (by omega) HJ.out (fun _ => h0))
            have HCL : Hid (cmpH (hvX X O[tt]) (hvX X x) < 0 ↔ ((cnK X x : Nat) : Int) < (cnK X O[tt] : Nat) ∨ (((cnK X x : Nat) : Int) = (cnK X O[tt] : Nat) ∧ cmpK O[tt].1 O[tt].2 x.1 x.2 < 0)) := hid (cmpH_lt _ _)
            obtain ⟨y, hy⟩ : ∃ y, y = O[tt] := ⟨_, rfl⟩
            rw [← hy] at hyo A0 A1 HJ1 HJ2 HCL
            have HRY := hid (fun w2 (t : Touch [] wo w2) => HRO.out w2 t y hyo)
            have HDY := hid (HDX.out y hyo)
            have L0 := HL0.out
            have L1 := HL1.out
            have N0 := HN0.out
            have N1 := HN1.out
            have N2 := HN2.out
            clear hy hto hyo HRO HDX HL0 HL1 HN0 HN1 HN2
            generalize cnK X x = cx at *
            generalize cnK X y = cy at *
            generalize cmpK y.1 y.2 x.1 x.2 = cv at *
            by_cases h1 : (cx : Int) < (cy : Int)
            · have HJ3 := hid (HJ1.out (HCL.out.2 (Or.inl h1)))
              clear HCL HJ1 HJ2
              go_wp2
              refine wp_region_H (S := fun w' => Touch [] wo w') (by kernel_rfl) ?_
              obtain ⟨WD, hWD⟩ : ∃ WD, WD = wr.drew := ⟨_, rfl⟩
              have k0 : Touch [] wo WD := by rw [hWD]; exact TQ.drew
              rw [← hWD]
              clear hWD
              refine wpH_take (i := 0) (v := (.int .i64 (tt : Nat))) (some 27) rfl rfl (by kernel_rfl) (by kernel_rfl) (by kernel_rfl) (fun _ _ _ h => h) (Or.inl ⟨by rfl, fun w' hS => (by go_simp)⟩) k0 ?_
              try simp only [Go.Act.put, List.setIfInBounds_toArray, List.set_cons_zero, List.set_cons_succ]
              refine wpH_take (i := 1) (v := (.slice (some ⟨g, 0, none⟩) m c)) (some 28) rfl rfl (by kernel_rfl) (by kernel_rfl) (by kernel_rfl) (fun _ _ _ h => h) (Or.inl ⟨by rfl, fun w' hS => (by go_simp)⟩) k0 ?_
              try simp only [Go.Act.put, List.setIfInBounds_toArray, List.set_cons_zero, List.set_cons_succ]
              refine wpH_take (i := 2) (v := (.int .i64 (m : Nat))) (some 29) rfl rfl (by kernel_rfl) (by kernel_rfl) (by kernel_rfl) (fun _ _ _ h => h) (Or.inl ⟨by rfl, fun w' hS => (by go_simp)⟩) k0 ?_
              try simp only [Go.Act.put, List.setIfInBounds_toArray, List.set_cons_zero, List.set_cons_succ]
              refine wpH_take (i := 3) (v := (.bool true)) (some 30) rfl rfl (by kernel_rfl) (by kernel_rfl) (by kernel_rfl) (fun _ _ _ h => h) (Or.inl ⟨by rfl, fun w' hS => (by go_simp)⟩) k0 ?_
              try simp only [Go.Act.put, List.setIfInBounds_toArray, List.set_cons_zero, List.set_cons_succ]
              refine wpH_take (i := 4) (v := (.bool true)) (some 31) rfl rfl (by kernel_rfl) (by kernel_rfl) (by kernel_rfl) (fun _ _ _ h => h) (Or.inl ⟨by rfl, fun w' hS => (by go_simp)⟩) k0 ?_
              try simp only [Go.Act.put, List.setIfInBounds_toArray, List.set_cons_zero, List.set_cons_succ]
              refine wpH_take (i := 5) (v := (.agg #[.int .i64 (X.b : Nat), .slice (some ⟨G, 0, none⟩) X.r cp, .int .u64 (X.t : Nat)])) (some 32) rfl rfl (by kernel_rfl) (by kernel_rfl) (by kernel_rfl) (fun _ _ _ h => h) (Or.inl ⟨by rfl, fun w' hS => (by have z0 := N0 _ hS; have z1 := N1 _ hS; have z2 := N2 _ hS; go_simp)⟩) k0 ?_
              try simp only [Go.Act.put, List.setIfInBounds_toArray, List.set_cons_zero, List.set_cons_succ]
              refine wpH_take (i := 6) (v := (.slice (some ⟨g, 0, none⟩) m c)) (some 33) rfl rfl (by kernel_rfl) (by kernel_rfl) (by kernel_rfl) (fun _ _ _ h => h) (Or.inl ⟨by rfl, fun w' hS => (by go_simp)⟩) k0 ?_
              try simp only [Go.Act.put, List.setIfInBounds_toArray, List.set_cons_zero, List.set_cons_succ]
              refine wpH_take (i := 7) (v := (.int .i64 (tt : Nat))) (some 34) rfl rfl (by kernel_rfl) (by kernel_rfl) (by kernel_rfl) (fun _ _ _ h => h) (Or.inl ⟨by rfl, fun w' hS => (by go_simp)⟩) k0 ?_
              try simp only [Go.Act.put, List.setIfInBounds_toArray, List.set_cons_zero, List.set_cons_succ]
              refine wpH_take (i := 8) (v := (.pointer (some ⟨g, tt * 2, none⟩))) (some 35) rfl rfl (by kernel_rfl) (by kernel_rfl) (by kernel_rfl) (fun _ _ _ h => h) (Or.inl ⟨by rfl, fun w' hS => (by go_simp)⟩) k0 ?_
              try simp only [Go.Act.put, List.setIfInBounds_toArray, List.set_cons_zero, List.set_cons_succ]
              refine wpH_take (i := 9) (v := (.agg #[.int .u16 y.1, .string y.2])) (some 36) rfl rfl (by kernel_rfl) (by kernel_rfl) (by kernel_rfl) (fun _ _ _ h => h) (Or.inl ⟨by rfl, fun w' hS => (by have z0 := A0 _ hS; have z1 := A1 _ hS; go_simp)⟩) k0 ?_
              try simp only [Go.Act.put, List.setIfInBounds_toArray, List.set_cons_zero, List.set_cons_succ]
              refine wpH_take (i := 11) (v := (.agg #[.int .i64 (X.b : Nat), .slice (some ⟨G, 0, none⟩) X.r cp, .int .u64 (X.t : Nat)])) (some 38) rfl rfl (by kernel_rfl) (by kernel_rfl) (by kernel_rfl) (fun _ _ _ h => h) (Or.inl ⟨by rfl, fun w' hS => (by have z0 := N0 _ hS; have z1 := N1 _ hS; have z2 := N2 _ hS; go_simp)⟩) k0 ?_
              try simp only [Go.Act.put, List.setIfInBounds_toArray, List.set_cons_zero, List.set_cons_succ]
              refine wpH_take (i := 12) (v := (.slice (some ⟨kb, off, none⟩) N c1)) (some 39) rfl rfl (by kernel_rfl) (by kernel_rfl) (by kernel_rfl) (fun _ _ _ h => h) (Or.inl ⟨by rfl, fun w' hS => (by go_simp)⟩) k0 ?_
              try simp only [Go.Act.put, List.setIfInBounds_toArray, List.set_cons_zero, List.set_cons_succ]
              refine wpH_take (i := 13) (v := (.int .i64 (i : Nat))) (some 40) rfl rfl (by kernel_rfl) (by kernel_rfl) (by kernel_rfl) (fun _ _ _ h => h) (Or.inl ⟨by rfl, fun w' hS => (by go_simp)⟩) k0 ?_
              try simp only [Go.Act.put, List.setIfInBounds_toArray, List.set_cons_zero, List.set_cons_succ]
              refine wpH_take (i := 14) (v := (.pointer (some ⟨kb, off + i * 2, none⟩))) (some 41) rfl rfl (by kernel_rfl) (by kernel_rfl) (by kernel_rfl) (fun _ _ _ h => h) (Or.inl ⟨by rfl, fun w' hS => (by go_simp)⟩) k0 ?_
              try simp only [Go.Act.put, List.setIfInBounds_toArray, List.set_cons_zero, List.set_cons_succ]
              refine wpH_take (i := 15) (v := (.agg #[.int .u16 x.1, .string x.2])) (some 42) rfl rfl (by kernel_rfl) (by kernel_rfl) (by kernel_rfl) (fun _ _ _ h => h) (Or.inl ⟨by rfl, fun w' hS => (by have z0 := L0 _ hS; have z1 := L1 _ hS; go_simp)⟩) k0 ?_
              try simp only [Go.Act.put, List.setIfInBounds_toArray, List.set_cons_zero, List.set_cons_succ]
              refine wpH_call (i := 10) (o := { dst := some 37, op := Op.call { callee := Callee.value (Operand.func 19), args := #[Operand.tmp 32, Operand.tmp 36], argTypes := #[29, 50] }, type := 3, pos := _, after := #[{ on := 5, ground := Ground.data }, { on := 9, ground := Ground.data }, { on := 4, ground := Ground.chain }, { on := 4, ground := Ground.guard }], guard := some (4, true) }) (by kernel_rfl) rfl (fun K' hK => ?_)
              rw [if_pos (by rfl)]
              go_simp
              refine (HRY.out _ k0).mono ?_
              rintro e w2 ⟨rfl, t1⟩
              have k1 := k0.trans' t1
              clear t1
              refine hK.out _ _ k1 ?_
              clear hK
              try simp only [Go.Act.put, List.setIfInBounds_toArray, List.set_cons_zero, List.set_cons_succ]
              refine wpH_call (i := 16) (o := { dst := some 43, op := Op.call { callee := Callee.value (Operand.func 19), args := #[Operand.tmp 38, Operand.tmp 42], argTypes := #[29, 50] }, type := 3, pos := _, after := #[{ on := 11, ground := Ground.data }, { on := 15, ground := Ground.data }, { on := 10, ground := Ground.chain }, { on := 4, ground := Ground.guard }], guard := some (4, true) }) (by kernel_rfl) rfl (fun K' hK => ?_)
              rw [if_pos (by rfl)]
              go_simp
              refine (HRX.out _ k1).mono ?_
              rintro e w3 ⟨rfl, t2⟩
              have k2 := k1.trans' t2
              clear t2
              refine hK.out _ _ k2 ?_
              clear hK
              try simp only [Go.Act.put, List.setIfInBounds_toArray, List.set_cons_zero, List.set_cons_succ]
              refine wpH_take (i := 17) (v := (.bool true)) (some 44) rfl rfl (by kernel_rfl) (by kernel_rfl) (by kernel_rfl) (fun _ _ _ h => h) (Or.inl ⟨by rfl, fun w' hS => (by go_simp)⟩) k2 ?_
              try simp only [Go.Act.put, List.setIfInBounds_toArray, List.set_cons_zero, List.set_cons_succ]
              refine wpH_take (i := 18) (v := (.bool true)) (some 45) rfl rfl (by kernel_rfl) (by kernel_rfl) (by kernel_rfl) (fun _ _ _ h => h) (Or.inl ⟨by rfl, fun w' hS => (by go_simp)⟩) k2 ?_
              try simp only [Go.Act.put, List.setIfInBounds_toArray, List.set_cons_zero, List.set_cons_succ]
              refine wpH_take (i := 19) (v := undef) (some 46) rfl rfl (by kernel_rfl) (by kernel_rfl) (by kernel_rfl) (fun _ _ _ h => h) (Or.inr ⟨by rfl, rfl⟩) k2 ?_
              try simp only [Go.Act.put, List.setIfInBounds_toArray, List.set_cons_zero, List.set_cons_succ]
              refine wpH_take (i := 20) (v := undef) (some 47) rfl rfl (by kernel_rfl) (by kernel_rfl) (by kernel_rfl) (fun _ _ _ h => h) (Or.inr ⟨by rfl, rfl⟩) k2 ?_
              try simp only [Go.Act.put, List.setIfInBounds_toArray, List.set_cons_zero, List.set_cons_succ]
              refine wpH_take (i := 21) (v := undef) (some 48) rfl rfl (by kernel_rfl) (by kernel_rfl) (by kernel_rfl) (fun _ _ _ h => h) (Or.inr ⟨by rfl, rfl⟩) k2 ?_
              try simp only [Go.Act.put, List.setIfInBounds_toArray, List.set_cons_zero, List.set_cons_succ]
              refine wpH_take (i := 22) (v := undef) (some 49) rfl rfl (by kernel_rfl) (by kernel_rfl) (by kernel_rfl) (fun _ _ _ h => h) (Or.inr ⟨by rfl, rfl⟩) k2 ?_
              try simp only [Go.Act.put, List.setIfInBounds_toArray, List.set_cons_zero, List.set_cons_succ]
              refine wpH_take (i := 23) (v := undef) (some 50) rfl rfl (by kernel_rfl) (by kernel_rfl) (by kernel_rfl) (fun _ _ _ h => h) (Or.inr ⟨by rfl, rfl⟩) k2 ?_
              try simp only [Go.Act.put, List.setIfInBounds_toArray, List.set_cons_zero, List.set_cons_succ]
              refine wpH_take (i := 24) (v := undef) (some 51) rfl rfl (by kernel_rfl) (by kernel_rfl) (by kernel_rfl) (fun _ _ _ h => h) (Or.inr ⟨by rfl, rfl⟩) k2 ?_
              try simp only [Go.Act.put, List.setIfInBounds_toArray, List.set_cons_zero, List.set_cons_succ]
              refine wpH_take (i := 25) (v := undef) (some 52) rfl rfl (by kernel_rfl) (by kernel_rfl) (by kernel_rfl) (fun _ _ _ h => h) (Or.inr ⟨by rfl, rfl⟩) k2 ?_
              try simp only [Go.Act.put, List.setIfInBounds_toArray, List.set_cons_zero, List.set_cons_succ]
              refine wpH_take (i := 26) (v := undef) (some 53) rfl rfl (by kernel_rfl) (by kernel_rfl) (by kernel_rfl) (fun _ _ _ h => h) (Or.inr ⟨by rfl, rfl⟩) k2 ?_
              try simp only [Go.Act.put, List.setIfInBounds_toArray, List.set_cons_zero, List.set_cons_succ]
              refine wpH_take (i := 27) (v := undef) (some 54) rfl rfl (by kernel_rfl) (by kernel_rfl) (by kernel_rfl) (fun _ _ _ h => h) (Or.inr ⟨by rfl, rfl⟩) k2 ?_
              try simp only [Go.Act.put, List.setIfInBounds_toArray, List.set_cons_zero, List.set_cons_succ]
              refine wpH_take (i := 28) (v := undef) (some 55) rfl rfl (by kernel_rfl) (by kernel_rfl) (by kernel_rfl) (fun _ _ _ h => h) (Or.inr ⟨by rfl, rfl⟩) k2 ?_
              try simp only [Go.Act.put, List.setIfInBounds_toArray, List.set_cons_zero, List.set_cons_succ]
              refine wpH_take (i := 29) (v := undef) (some 56) rfl rfl (by kernel_rfl) (by kernel_rfl) (by kernel_rfl) (fun _ _ _ h => h) (Or.inr ⟨by rfl, rfl⟩) k2 ?_
              try simp only [Go.Act.put, List.setIfInBounds_toArray, List.set_cons_zero, List.set_cons_succ]
              refine wpH_take (i := 30) (v := undef) (some 57) rfl rfl (by kernel_rfl) (by kernel_rfl) (by kernel_rfl) (fun _ _ _ h => h) (Or.inr ⟨by rfl, rfl⟩) k2 ?_
              try simp only [Go.Act.put, List.setIfInBounds_toArray, List.set_cons_zero, List.set_cons_succ]
              refine wpH_take (i := 31) (v := undef) (some 58) rfl rfl (by kernel_rfl) (by kernel_rfl) (by kernel_rfl) (fun _ _ _ h => h) (Or.inr ⟨by rfl, rfl⟩) k2 ?_
              try simp only [Go.Act.put, List.setIfInBounds_toArray, List.set_cons_zero, List.set_cons_succ]
              refine wpH_take (i := 32) (v := undef) (some 59) rfl rfl (by kernel_rfl) (by kernel_rfl) (by kernel_rfl) (fun _ _ _ h => h) (Or.inr ⟨by rfl, rfl⟩) k2 ?_
              try simp only [Go.Act.put, List.setIfInBounds_toArray, List.set_cons_zero, List.set_cons_succ]
              refine wpH_take (i := 33) (v := undef) (some 60) rfl rfl (by kernel_rfl) (by kernel_rfl) (by kernel_rfl) (fun _ _ _ h => h) (Or.inr ⟨by rfl, rfl⟩) k2 ?_
              try simp only [Go.Act.put, List.setIfInBounds_toArray, List.set_cons_zero, List.set_cons_succ]
              refine wpH_take (i := 34) (v := undef) (some 61) rfl rfl (by kernel_rfl) (by kernel_rfl) (by kernel_rfl) (fun _ _ _ h => h) (Or.inr ⟨by rfl, rfl⟩) k2 ?_
              try simp only [Go.Act.put, List.setIfInBounds_toArray, List.set_cons_zero, List.set_cons_succ]
              refine wpH_take (i := 35) (v := undef) (some 62) rfl rfl (by kernel_rfl) (by kernel_rfl) (by kernel_rfl) (fun _ _ _ h => h) (Or.inr ⟨by rfl, rfl⟩) k2 ?_
              try simp only [Go.Act.put, List.setIfInBounds_toArray, List.set_cons_zero, List.set_cons_succ]
              refine wpH_take (i := 36) (v := undef) (some 63) rfl rfl (by kernel_rfl) (by kernel_rfl) (by kernel_rfl) (fun _ _ _ h => h) (Or.inr ⟨by rfl, rfl⟩) k2 ?_
              try simp only [Go.Act.put, List.setIfInBounds_toArray, List.set_cons_zero, List.set_cons_succ]
              refine wpH_take (i := 37) (v := undef) (some 64) rfl rfl (by kernel_rfl) (by kernel_rfl) (by kernel_rfl) (fun _ _ _ h => h) (Or.inr ⟨by rfl, rfl⟩) k2 ?_
              try simp only [Go.Act.put, List.setIfInBounds_toArray, List.set_cons_zero, List.set_cons_succ]
              refine wpH_take (i := 38) (v := undef) (some 65) rfl rfl (by kernel_rfl) (by kernel_rfl) (by kernel_rfl) (fun _ _ _ h => h) (Or.inr ⟨by rfl, rfl⟩) k2 ?_
              try simp only [Go.Act.put, List.setIfInBounds_toArray, List.set_cons_zero, List.set_cons_succ]
              refine wpH_take (i := 39) (v := undef) (some 66) rfl rfl (by kernel_rfl) (by kernel_rfl) (by kernel_rfl) (fun _ _ _ h => h) (Or.inr ⟨by rfl, rfl⟩) k2 ?_
              try simp only [Go.Act.put, List.setIfInBounds_toArray, List.set_cons_zero, List.set_cons_succ]
              refine wpH_take (i := 40) (v := undef) (some 67) rfl rfl (by kernel_rfl) (by kernel_rfl) (by kernel_rfl) (fun _ _ _ h => h) (Or.inr ⟨by rfl, rfl⟩) k2 ?_
              try simp only [Go.Act.put, List.setIfInBounds_toArray, List.set_cons_zero, List.set_cons_succ]
              refine wpH_take (i := 41) (v := undef) (some 68) rfl rfl (by kernel_rfl) (by kernel_rfl) (by kernel_rfl) (fun _ _ _ h => h) (Or.inr ⟨by rfl, rfl⟩) k2 ?_
              try simp only [Go.Act.put, List.setIfInBounds_toArray, List.set_cons_zero, List.set_cons_succ]
              refine wpH_take (i := 42) (v := undef) (some 69) rfl rfl (by kernel_rfl) (by kernel_rfl) (by kernel_rfl) (fun _ _ _ h => h) (Or.inr ⟨by rfl, rfl⟩) k2 ?_
              try simp only [Go.Act.put, List.setIfInBounds_toArray, List.set_cons_zero, List.set_cons_succ]
              refine wpH_take (i := 43) (v := undef) (some 70) rfl rfl (by kernel_rfl) (by kernel_rfl) (by kernel_rfl) (fun _ _ _ h => h) (Or.inr ⟨by rfl, rfl⟩) k2 ?_
              try simp only [Go.Act.put, List.setIfInBounds_toArray, List.set_cons_zero, List.set_cons_succ]
              refine wpH_take (i := 44) (v := (.bool true)) (some 71) rfl rfl (by kernel_rfl) (by kernel_rfl) (by kernel_rfl) (fun _ _ _ h => h) (Or.inl ⟨by rfl, fun w' hS => (by go_simp)⟩) k2 ?_
              try simp only [Go.Act.put, List.setIfInBounds_toArray, List.set_cons_zero, List.set_cons_succ]
              refine wpH_take (i := 45) (v := (.bool true)) (some 72) rfl rfl (by kernel_rfl) (by kernel_rfl) (by kernel_rfl) (fun _ _ _ h => h) (Or.inl ⟨by rfl, fun w' hS => (by go_simp)⟩) k2 ?_
              try simp only [Go.Act.put, List.setIfInBounds_toArray, List.set_cons_zero, List.set_cons_succ]
              refine wpAnyH_done (by kernel_rfl) ?_ _
              go_wp2
              exact ⟨⟨tt + 1, by omega, rfl, k2, HJ3⟩, by simp [intOf]; omega⟩
            · by_cases h2 : (cy : Int) = (cx : Int)
              · have e2 : cy = cx := by omega
                by_cases h3 : cv < 0
                · have HJ3 := hid (HJ1.out (HCL.out.2 (Or.inr ⟨h2.symm, h3⟩)))
                  subst e2
                  clear HCL HJ1 HJ2 h1 h2
                  go_wp2
                  refine wp_region_H (S := fun w' => Touch [] wo w') (by kernel_rfl) ?_
                  obtain ⟨WD, hWD⟩ : ∃ WD, WD = wr.drew := ⟨_, rfl⟩
                  have k0 : Touch [] wo WD := by rw [hWD]; exact TQ.drew
                  rw [← hWD]
                  clear hWD
                  refine wpH_take (i := 0) (v := (.int .i64 (tt : Nat))) (some 27) rfl rfl (by kernel_rfl) (by kernel_rfl) (by kernel_rfl) (fun _ _ _ h => h) (Or.inl ⟨by rfl, fun w' hS => (by go_simp)⟩) k0 ?_
                  try simp only [Go.Act.put, List.setIfInBounds_toArray, List.set_cons_zero, List.set_cons_succ]
                  refine wpH_take (i := 1) (v := (.slice (some ⟨g, 0, none⟩) m c)) (some 28) rfl rfl (by kernel_rfl) (by kernel_rfl) (by kernel_rfl) (fun _ _ _ h => h) (Or.inl ⟨by rfl, fun w' hS => (by go_simp)⟩) k0 ?_
                  try simp only [Go.Act.put, List.setIfInBounds_toArray, List.set_cons_zero, List.set_cons_succ]
                  refine wpH_take (i := 2) (v := (.int .i64 (m : Nat))) (some 29) rfl rfl (by kernel_rfl) (by kernel_rfl) (by kernel_rfl) (fun _ _ _ h => h) (Or.inl ⟨by rfl, fun w' hS => (by go_simp)⟩) k0 ?_
                  try simp only [Go.Act.put, List.setIfInBounds_toArray, List.set_cons_zero, List.set_cons_succ]
                  refine wpH_take (i := 3) (v := (.bool true)) (some 30) rfl rfl (by kernel_rfl) (by kernel_rfl) (by kernel_rfl) (fun _ _ _ h => h) (Or.inl ⟨by rfl, fun w' hS => (by go_simp)⟩) k0 ?_
                  try simp only [Go.Act.put, List.setIfInBounds_toArray, List.set_cons_zero, List.set_cons_succ]
                  refine wpH_take (i := 4) (v := (.bool true)) (some 31) rfl rfl (by kernel_rfl) (by kernel_rfl) (by kernel_rfl) (fun _ _ _ h => h) (Or.inl ⟨by rfl, fun w' hS => (by go_simp)⟩) k0 ?_
                  try simp only [Go.Act.put, List.setIfInBounds_toArray, List.set_cons_zero, List.set_cons_succ]
                  refine wpH_take (i := 5) (v := (.agg #[.int .i64 (X.b : Nat), .slice (some ⟨G, 0, none⟩) X.r cp, .int .u64 (X.t : Nat)])) (some 32) rfl rfl (by kernel_rfl) (by kernel_rfl) (by kernel_rfl) (fun _ _ _ h => h) (Or.inl ⟨by rfl, fun w' hS => (by have z0 := N0 _ hS; have z1 := N1 _ hS; have z2 := N2 _ hS; go_simp)⟩) k0 ?_
                  try simp only [Go.Act.put, List.setIfInBounds_toArray, List.set_cons_zero, List.set_cons_succ]
                  refine wpH_take (i := 6) (v := (.slice (some ⟨g, 0, none⟩) m c)) (some 33) rfl rfl (by kernel_rfl) (by kernel_rfl) (by kernel_rfl) (fun _ _ _ h => h) (Or.inl ⟨by rfl, fun w' hS => (by go_simp)⟩) k0 ?_
                  try simp only [Go.Act.put, List.setIfInBounds_toArray, List.set_cons_zero, List.set_cons_succ]
                  refine wpH_take (i := 7) (v := (.int .i64 (tt : Nat))) (some 34) rfl rfl (by kernel_rfl) (by kernel_rfl) (by kernel_rfl) (fun _ _ _ h => h) (Or.inl ⟨by rfl, fun w' hS => (by go_simp)⟩) k0 ?_
                  try simp only [Go.Act.put, List.setIfInBounds_toArray, List.set_cons_zero, List.set_cons_succ]
                  refine wpH_take (i := 8) (v := (.pointer (some ⟨g, tt * 2, none⟩))) (some 35) rfl rfl (by kernel_rfl) (by kernel_rfl) (by kernel_rfl) (fun _ _ _ h => h) (Or.inl ⟨by rfl, fun w' hS => (by go_simp)⟩) k0 ?_
                  try simp only [Go.Act.put, List.setIfInBounds_toArray, List.set_cons_zero, List.set_cons_succ]
                  refine wpH_take (i := 9) (v := (.agg #[.int .u16 y.1, .string y.2])) (some 36) rfl rfl (by kernel_rfl) (by kernel_rfl) (by kernel_rfl) (fun _ _ _ h => h) (Or.inl ⟨by rfl, fun w' hS => (by have z0 := A0 _ hS; have z1 := A1 _ hS; go_simp)⟩) k0 ?_
                  try simp only [Go.Act.put, List.setIfInBounds_toArray, List.set_cons_zero, List.set_cons_succ]
                  refine wpH_take (i := 11) (v := (.agg #[.int .i64 (X.b : Nat), .slice (some ⟨G, 0, none⟩) X.r cp, .int .u64 (X.t : Nat)])) (some 38) rfl rfl (by kernel_rfl) (by kernel_rfl) (by kernel_rfl) (fun _ _ _ h => h) (Or.inl ⟨by rfl, fun w' hS => (by have z0 := N0 _ hS; have z1 := N1 _ hS; have z2 := N2 _ hS; go_simp)⟩) k0 ?_
                  try simp only [Go.Act.put, List.setIfInBounds_toArray, List.set_cons_zero, List.set_cons_succ]
                  refine wpH_take (i := 12) (v := (.slice (some ⟨kb, off, none⟩) N c1)) (some 39) rfl rfl (by kernel_rfl) (by kernel_rfl) (by kernel_rfl) (fun _ _ _ h => h) (Or.inl ⟨by rfl, fun w' hS => (by go_simp)⟩) k0 ?_
                  try simp only [Go.Act.put, List.setIfInBounds_toArray, List.set_cons_zero, List.set_cons_succ]
                  refine wpH_take (i := 13) (v := (.int .i64 (i : Nat))) (some 40) rfl rfl (by kernel_rfl) (by kernel_rfl) (by kernel_rfl) (fun _ _ _ h => h) (Or.inl ⟨by rfl, fun w' hS => (by go_simp)⟩) k0 ?_
                  try simp only [Go.Act.put, List.setIfInBounds_toArray, List.set_cons_zero, List.set_cons_succ]
                  refine wpH_take (i := 14) (v := (.pointer (some ⟨kb, off + i * 2, none⟩))) (some 41) rfl rfl (by kernel_rfl) (by kernel_rfl) (by kernel_rfl) (fun _ _ _ h => h) (Or.inl ⟨by rfl, fun w' hS => (by go_simp)⟩) k0 ?_
                  try simp only [Go.Act.put, List.setIfInBounds_toArray, List.set_cons_zero, List.set_cons_succ]
                  refine wpH_take (i := 15) (v := (.agg #[.int .u16 x.1, .string x.2])) (some 42) rfl rfl (by kernel_rfl) (by kernel_rfl) (by kernel_rfl) (fun _ _ _ h => h) (Or.inl ⟨by rfl, fun w' hS => (by have z0 := L0 _ hS; have z1 := L1 _ hS; go_simp)⟩) k0 ?_
                  try simp only [Go.Act.put, List.setIfInBounds_toArray, List.set_cons_zero, List.set_cons_succ]
                  refine wpH_call (i := 10) (o := { dst := some 37, op := Op.call { callee := Callee.value (Operand.func 19), args := #[Operand.tmp 32, Operand.tmp 36], argTypes := #[29, 50] }, type := 3, pos := _, after := #[{ on := 5, ground := Ground.data }, { on := 9, ground := Ground.data }, { on := 4, ground := Ground.chain }, { on := 4, ground := Ground.guard }], guard := some (4, true) }) (by kernel_rfl) rfl (fun K' hK => ?_)
                  rw [if_pos (by rfl)]
                  go_simp
                  refine (HRY.out _ k0).mono ?_
                  rintro e w2 ⟨rfl, t1⟩
                  have k1 := k0.trans' t1
                  clear t1
                  refine hK.out _ _ k1 ?_
                  clear hK
                  try simp only [Go.Act.put, List.setIfInBounds_toArray, List.set_cons_zero, List.set_cons_succ]
                  refine wpH_call (i := 16) (o := { dst := some 43, op := Op.call { callee := Callee.value (Operand.func 19), args := #[Operand.tmp 38, Operand.tmp 42], argTypes := #[29, 50] }, type := 3, pos := _, after := #[{ on := 11, ground := Ground.data }, { on := 15, ground := Ground.data }, { on := 10, ground := Ground.chain }, { on := 4, ground := Ground.guard }], guard := some (4, true) }) (by kernel_rfl) rfl (fun K' hK => ?_)
                  rw [if_pos (by rfl)]
                  go_simp
                  refine (HRX.out _ k1).mono ?_
                  rintro e w3 ⟨rfl, t2⟩
                  have k2 := k1.trans' t2
                  clear t2
                  refine hK.out _ _ k2 ?_
                  clear hK
                  try simp only [Go.Act.put, List.setIfInBounds_toArray, List.set_cons_zero, List.set_cons_succ]
                  refine wpH_take (i := 17) (v := (.bool false)) (some 44) rfl rfl (by kernel_rfl) (by kernel_rfl) (by kernel_rfl) (fun _ _ _ h => h) (Or.inl ⟨by rfl, fun w' hS => (by go_simp)⟩) k2 ?_
                  try simp only [Go.Act.put, List.setIfInBounds_toArray, List.set_cons_zero, List.set_cons_succ]
                  refine wpH_take (i := 18) (v := (.bool false)) (some 45) rfl rfl (by kernel_rfl) (by kernel_rfl) (by kernel_rfl) (fun _ _ _ h => h) (Or.inl ⟨by rfl, fun w' hS => (by go_simp)⟩) k2 ?_
                  try simp only [Go.Act.put, List.setIfInBounds_toArray, List.set_cons_zero, List.set_cons_succ]
                  refine wpH_take (i := 19) (v := (.agg #[.int .i64 (X.b : Nat), .slice (some ⟨G, 0, none⟩) X.r cp, .int .u64 (X.t : Nat)])) (some 46) rfl rfl (by kernel_rfl) (by kernel_rfl) (by kernel_rfl) (fun _ _ _ h => h) (Or.inl ⟨by rfl, fun w' hS => (by have z0 := N0 _ hS; have z1 := N1 _ hS; have z2 := N2 _ hS; go_simp)⟩) k2 ?_
                  try simp only [Go.Act.put, List.setIfInBounds_toArray, List.set_cons_zero, List.set_cons_succ]
                  refine wpH_take (i := 20) (v := (.slice (some ⟨g, 0, none⟩) m c)) (some 47) rfl rfl (by kernel_rfl) (by kernel_rfl) (by kernel_rfl) (fun _ _ _ h => h) (Or.inl ⟨by rfl, fun w' hS => (by go_simp)⟩) k2 ?_
                  try simp only [Go.Act.put, List.setIfInBounds_toArray, List.set_cons_zero, List.set_cons_succ]
                  refine wpH_take (i := 21) (v := (.int .i64 (tt : Nat))) (some 48) rfl rfl (by kernel_rfl) (by kernel_rfl) (by kernel_rfl) (fun _ _ _ h => h) (Or.inl ⟨by rfl, fun w' hS => (by go_simp)⟩) k2 ?_
                  try simp only [Go.Act.put, List.setIfInBounds_toArray, List.set_cons_zero, List.set_cons_succ]
                  refine wpH_take (i := 22) (v := (.pointer (some ⟨g, tt * 2, none⟩))) (some 49) rfl rfl (by kernel_rfl) (by kernel_rfl) (by kernel_rfl) (fun _ _ _ h => h) (Or.inl ⟨by rfl, fun w' hS => (by go_simp)⟩) k2 ?_
                  try simp only [Go.Act.put, List.setIfInBounds_toArray, List.set_cons_zero, List.set_cons_succ]
                  refine wpH_take (i := 23) (v := (.agg #[.int .u16 y.1, .string y.2])) (some 50) rfl rfl (by kernel_rfl) (by kernel_rfl) (by kernel_rfl) (fun _ _ _ h => h) (Or.inl ⟨by rfl, fun w' hS => (by have z0 := A0 _ hS; have z1 := A1 _ hS; go_simp)⟩) k2 ?_
                  try simp only [Go.Act.put, List.setIfInBounds_toArray, List.set_cons_zero, List.set_cons_succ]
                  refine wpH_take (i := 25) (v := (.agg #[.int .i64 (X.b : Nat), .slice (some ⟨G, 0, none⟩) X.r cp, .int .u64 (X.t : Nat)])) (some 52) rfl rfl (by kernel_rfl) (by kernel_rfl) (by kernel_rfl) (fun _ _ _ h => h) (Or.inl ⟨by rfl, fun w' hS => (by have z0 := N0 _ hS; have z1 := N1 _ hS; have z2 := N2 _ hS; go_simp)⟩) k2 ?_
                  try simp only [Go.Act.put, List.setIfInBounds_toArray, List.set_cons_zero, List.set_cons_succ]
                  refine wpH_take (i := 26) (v := (.slice (some ⟨kb, off, none⟩) N c1)) (some 53) rfl rfl (by kernel_rfl) (by kernel_rfl) (by kernel_rfl) (fun _ _ _ h => h) (Or.inl ⟨by rfl, fun w' hS => (by go_simp)⟩) k2 ?_
                  try simp only [Go.Act.put, List.setIfInBounds_toArray, List.set_cons_zero, List.set_cons_succ]
                  refine wpH_take (i := 27) (v := (.int .i64 (i : Nat))) (some 54) rfl rfl (by kernel_rfl) (by kernel_rfl) (by kernel_rfl) (fun _ _ _ h => h) (Or.inl ⟨by rfl, fun w' hS => (by go_simp)⟩) k2 ?_
                  try simp only [Go.Act.put, List.setIfInBounds_toArray, List.set_cons_zero, List.set_cons_succ]
                  refine wpH_take (i := 28) (v := (.pointer (some ⟨kb, off + i * 2, none⟩))) (some 55) rfl rfl (by kernel_rfl) (by kernel_rfl) (by kernel_rfl) (fun _ _ _ h => h) (Or.inl ⟨by rfl, fun w' hS => (by go_simp)⟩) k2 ?_
                  try simp only [Go.Act.put, List.setIfInBounds_toArray, List.set_cons_zero, List.set_cons_succ]
                  refine wpH_take (i := 29) (v := (.agg #[.int .u16 x.1, .string x.2])) (some 56) rfl rfl (by kernel_rfl) (by kernel_rfl) (by kernel_rfl) (fun _ _ _ h => h) (Or.inl ⟨by rfl, fun w' hS => (by have z0 := L0 _ hS; have z1 := L1 _ hS; go_simp)⟩) k2 ?_
                  try simp only [Go.Act.put, List.setIfInBounds_toArray, List.set_cons_zero, List.set_cons_succ]
                  refine wpH_call (i := 24) (o := { dst := some 51, op := Op.call { callee := Callee.value (Operand.func 19), args := #[Operand.tmp 46, Operand.tmp 50], argTypes := #[29, 50] }, type := 3, pos := _, after := #[{ on := 19, ground := Ground.data }, { on := 23, ground := Ground.data }, { on := 18, ground := Ground.chain }, { on := 18, ground := Ground.guard }], guard := some (18, false) }) (by kernel_rfl) rfl (fun K' hK => ?_)
                  rw [if_pos (by rfl)]
                  go_simp
                  refine (HRY.out _ k2).mono ?_
                  rintro e w4 ⟨rfl, t3⟩
                  have k3 := k2.trans' t3
                  clear t3
                  refine hK.out _ _ k3 ?_
                  clear hK
                  try simp only [Go.Act.put, List.setIfInBounds_toArray, List.set_cons_zero, List.set_cons_succ]
                  refine wpH_call (i := 30) (o := { dst := some 57, op := Op.call { callee := Callee.value (Operand.func 19), args := #[Operand.tmp 52, Operand.tmp 56], argTypes := #[29, 50] }, type := 3, pos := _, after := #[{ on := 25, ground := Ground.data }, { on := 29, ground := Ground.data }, { on := 24, ground := Ground.chain }, { on := 18, ground := Ground.guard }], guard := some (18, false) }) (by kernel_rfl) rfl (fun K' hK => ?_)
                  rw [if_pos (by rfl)]
                  go_simp
                  refine (HRX.out _ k3).mono ?_
                  rintro e w5 ⟨rfl, t4⟩
                  have k4 := k3.trans' t4
                  clear t4
                  refine hK.out _ _ k4 ?_
                  clear hK
                  try simp only [Go.Act.put, List.setIfInBounds_toArray, List.set_cons_zero, List.set_cons_succ]
                  refine wpH_take (i := 31) (v := (.bool true)) (some 58) rfl rfl (by kernel_rfl) (by kernel_rfl) (by kernel_rfl) (fun _ _ _ h => h) (Or.inl ⟨by rfl, fun w' hS => (by go_simp)⟩) k4 ?_
                  try simp only [Go.Act.put, List.setIfInBounds_toArray, List.set_cons_zero, List.set_cons_succ]
                  refine wpH_take (i := 32) (v := (.bool true)) (some 59) rfl rfl (by kernel_rfl) (by kernel_rfl) (by kernel_rfl) (fun _ _ _ h => h) (Or.inl ⟨by rfl, fun w' hS => (by go_simp)⟩) k4 ?_
                  try simp only [Go.Act.put, List.setIfInBounds_toArray, List.set_cons_zero, List.set_cons_succ]
                  refine wpH_take (i := 33) (v := (.slice (some ⟨g, 0, none⟩) m c)) (some 60) rfl rfl (by kernel_rfl) (by kernel_rfl) (by kernel_rfl) (fun _ _ _ h => h) (Or.inl ⟨by rfl, fun w' hS => (by go_simp)⟩) k4 ?_
                  try simp only [Go.Act.put, List.setIfInBounds_toArray, List.set_cons_zero, List.set_cons_succ]
                  refine wpH_take (i := 34) (v := (.int .i64 (tt : Nat))) (some 61) rfl rfl (by kernel_rfl) (by kernel_rfl) (by kernel_rfl) (fun _ _ _ h => h) (Or.inl ⟨by rfl, fun w' hS => (by go_simp)⟩) k4 ?_
                  try simp only [Go.Act.put, List.setIfInBounds_toArray, List.set_cons_zero, List.set_cons_succ]
                  refine wpH_take (i := 35) (v := (.pointer (some ⟨g, tt * 2, none⟩))) (some 62) rfl rfl (by kernel_rfl) (by kernel_rfl) (by kernel_rfl) (fun _ _ _ h => h) (Or.inl ⟨by rfl, fun w' hS => (by go_simp)⟩) k4 ?_
                  try simp only [Go.Act.put, List.setIfInBounds_toArray, List.set_cons_zero, List.set_cons_succ]
                  refine wpH_take (i := 36) (v := (.agg #[.int .u16 y.1, .string y.2])) (some 63) rfl rfl (by kernel_rfl) (by kernel_rfl) (by kernel_rfl) (fun _ _ _ h => h) (Or.inl ⟨by rfl, fun w' hS => (by have z0 := A0 _ hS; have z1 := A1 _ hS; go_simp)⟩) k4 ?_
                  try simp only [Go.Act.put, List.setIfInBounds_toArray, List.set_cons_zero, List.set_cons_succ]
                  refine wpH_take (i := 37) (v := (.slice (some ⟨kb, off, none⟩) N c1)) (some 64) rfl rfl (by kernel_rfl) (by kernel_rfl) (by kernel_rfl) (fun _ _ _ h => h) (Or.inl ⟨by rfl, fun w' hS => (by go_simp)⟩) k4 ?_
                  try simp only [Go.Act.put, List.setIfInBounds_toArray, List.set_cons_zero, List.set_cons_succ]
                  refine wpH_take (i := 38) (v := (.int .i64 (i : Nat))) (some 65) rfl rfl (by kernel_rfl) (by kernel_rfl) (by kernel_rfl) (fun _ _ _ h => h) (Or.inl ⟨by rfl, fun w' hS => (by go_simp)⟩) k4 ?_
                  try simp only [Go.Act.put, List.setIfInBounds_toArray, List.set_cons_zero, List.set_cons_succ]
                  refine wpH_take (i := 39) (v := (.pointer (some ⟨kb, off + i * 2, none⟩))) (some 66) rfl rfl (by kernel_rfl) (by kernel_rfl) (by kernel_rfl) (fun _ _ _ h => h) (Or.inl ⟨by rfl, fun w' hS => (by go_simp)⟩) k4 ?_
                  try simp only [Go.Act.put, List.setIfInBounds_toArray, List.set_cons_zero, List.set_cons_succ]
                  refine wpH_take (i := 40) (v := (.agg #[.int .u16 x.1, .string x.2])) (some 67) rfl rfl (by kernel_rfl) (by kernel_rfl) (by kernel_rfl) (fun _ _ _ h => h) (Or.inl ⟨by rfl, fun w' hS => (by have z0 := L0 _ hS; have z1 := L1 _ hS; go_simp)⟩) k4 ?_
                  try simp only [Go.Act.put, List.setIfInBounds_toArray, List.set_cons_zero, List.set_cons_succ]
                  refine wpH_call (i := 41) (o := { dst := some 68, op := Op.call { callee := Callee.value (Operand.func 42), args := #[Operand.tmp 63, Operand.tmp 67], argTypes := #[50, 50] }, type := 3, pos := _, after := #[{ on := 36, ground := Ground.data }, { on := 40, ground := Ground.data }, { on := 32, ground := Ground.chain }, { on := 32, ground := Ground.guard }], guard := some (32, true) }) (by kernel_rfl) rfl (fun K' hK => ?_)
                  rw [if_pos (by rfl)]
                  go_simp
                  refine (HDY.out _).mono ?_
                  rintro e w6 ⟨rfl, t5⟩
                  have k5 := k4.trans' t5
                  clear t5
                  refine hK.out _ _ k5 ?_
                  clear hK
                  try simp only [Go.Act.put, List.setIfInBounds_toArray, List.set_cons_zero, List.set_cons_succ]
                  refine wpH_take (i := 42) (v := (.bool true)) (some 69) rfl rfl (by kernel_rfl) (by kernel_rfl) (by kernel_rfl) (fun _ _ _ h => h) (Or.inl ⟨by rfl, fun w' hS => (by go_simp)⟩) k5 ?_
                  try simp only [Go.Act.put, List.setIfInBounds_toArray, List.set_cons_zero, List.set_cons_succ]
                  refine wpH_take (i := 43) (v := (.bool true)) (some 70) rfl rfl (by kernel_rfl) (by kernel_rfl) (by kernel_rfl) (fun _ _ _ h => h) (Or.inl ⟨by rfl, fun w' hS => (by go_simp)⟩) k5 ?_
                  try simp only [Go.Act.put, List.setIfInBounds_toArray, List.set_cons_zero, List.set_cons_succ]
                  refine wpH_take (i := 44) (v := (.bool true)) (some 71) rfl rfl (by kernel_rfl) (by kernel_rfl) (by kernel_rfl) (fun _ _ _ h => h) (Or.inl ⟨by rfl, fun w' hS => (by go_simp)⟩) k5 ?_
                  try simp only [Go.Act.put, List.setIfInBounds_toArray, List.set_cons_zero, List.set_cons_succ]
                  refine wpH_take (i := 45) (v := (.bool true)) (some 72) rfl rfl (by kernel_rfl) (by kernel_rfl) (by kernel_rfl) (fun _ _ _ h => h) (Or.inl ⟨by rfl, fun w' hS => (by go_simp)⟩) k5 ?_
                  try simp only [Go.Act.put, List.setIfInBounds_toArray, List.set_cons_zero, List.set_cons_succ]
                  refine wpAnyH_done (by kernel_rfl) ?_ _
                  go_wp2
                  exact ⟨⟨tt + 1, by omega, rfl, k5, HJ3⟩, by simp [intOf]; omega⟩
                · have HE := hid (HJ2.out (fun q => by
                    rcases HCL.out.1 q with q | q
                    · exact h1 q
                    · exact h3 q.2))
                  subst e2
                  clear HCL HJ1 HJ2 h1 h2
                  go_wp2
                  refine wp_region_H (S := fun w' => Touch [] wo w') (by kernel_rfl) ?_
                  obtain ⟨WD, hWD⟩ : ∃ WD, WD = wr.drew := ⟨_, rfl⟩
                  have k0 : Touch [] wo WD := by rw [hWD]; exact TQ.drew
                  rw [← hWD]
                  clear hWD
                  refine wpH_take (i := 0) (v := (.int .i64 (tt : Nat))) (some 27) rfl rfl (by kernel_rfl) (by kernel_rfl) (by kernel_rfl) (fun _ _ _ h => h) (Or.inl ⟨by rfl, fun w' hS => (by go_simp)⟩) k0 ?_
                  try simp only [Go.Act.put, List.setIfInBounds_toArray, List.set_cons_zero, List.set_cons_succ]
                  refine wpH_take (i := 1) (v := (.slice (some ⟨g, 0, none⟩) m c)) (some 28) rfl rfl (by kernel_rfl) (by kernel_rfl) (by kernel_rfl) (fun _ _ _ h => h) (Or.inl ⟨by rfl, fun w' hS => (by go_simp)⟩) k0 ?_
                  try simp only [Go.Act.put, List.setIfInBounds_toArray, List.set_cons_zero, List.set_cons_succ]
                  refine wpH_take (i := 2) (v := (.int .i64 (m : Nat))) (some 29) rfl rfl (by kernel_rfl) (by kernel_rfl) (by kernel_rfl) (fun _ _ _ h => h) (Or.inl ⟨by rfl, fun w' hS => (by go_simp)⟩) k0 ?_
                  try simp only [Go.Act.put, List.setIfInBounds_toArray, List.set_cons_zero, List.set_cons_succ]
                  refine wpH_take (i := 3) (v := (.bool true)) (some 30) rfl rfl (by kernel_rfl) (by kernel_rfl) (by kernel_rfl) (fun _ _ _ h => h) (Or.inl ⟨by rfl, fun w' hS => (by go_simp)⟩) k0 ?_
                  try simp only [Go.Act.put, List.setIfInBounds_toArray, List.set_cons_zero, List.set_cons_succ]
                  refine wpH_take (i := 4) (v := (.bool true)) (some 31) rfl rfl (by kernel_rfl) (by kernel_rfl) (by kernel_rfl) (fun _ _ _ h => h) (Or.inl ⟨by rfl, fun w' hS => (by go_simp)⟩) k0 ?_
                  try simp only [Go.Act.put, List.setIfInBounds_toArray, List.set_cons_zero, List.set_cons_succ]
                  refine wpH_take (i := 5) (v := (.agg #[.int .i64 (X.b : Nat), .slice (some ⟨G, 0, none⟩) X.r cp, .int .u64 (X.t : Nat)])) (some 32) rfl rfl (by kernel_rfl) (by kernel_rfl) (by kernel_rfl) (fun _ _ _ h => h) (Or.inl ⟨by rfl, fun w' hS => (by have z0 := N0 _ hS; have z1 := N1 _ hS; have z2 := N2 _ hS; go_simp)⟩) k0 ?_
                  try simp only [Go.Act.put, List.setIfInBounds_toArray, List.set_cons_zero, List.set_cons_succ]
                  refine wpH_take (i := 6) (v := (.slice (some ⟨g, 0, none⟩) m c)) (some 33) rfl rfl (by kernel_rfl) (by kernel_rfl) (by kernel_rfl) (fun _ _ _ h => h) (Or.inl ⟨by rfl, fun w' hS => (by go_simp)⟩) k0 ?_
                  try simp only [Go.Act.put, List.setIfInBounds_toArray, List.set_cons_zero, List.set_cons_succ]
                  refine wpH_take (i := 7) (v := (.int .i64 (tt : Nat))) (some 34) rfl rfl (by kernel_rfl) (by kernel_rfl) (by kernel_rfl) (fun _ _ _ h => h) (Or.inl ⟨by rfl, fun w' hS => (by go_simp)⟩) k0 ?_
                  try simp only [Go.Act.put, List.setIfInBounds_toArray, List.set_cons_zero, List.set_cons_succ]
                  refine wpH_take (i := 8) (v := (.pointer (some ⟨g, tt * 2, none⟩))) (some 35) rfl rfl (by kernel_rfl) (by kernel_rfl) (by kernel_rfl) (fun _ _ _ h => h) (Or.inl ⟨by rfl, fun w' hS => (by go_simp)⟩) k0 ?_
                  try simp only [Go.Act.put, List.setIfInBounds_toArray, List.set_cons_zero, List.set_cons_succ]
                  refine wpH_take (i := 9) (v := (.agg #[.int .u16 y.1, .string y.2])) (some 36) rfl rfl (by kernel_rfl) (by kernel_rfl) (by kernel_rfl) (fun _ _ _ h => h) (Or.inl ⟨by rfl, fun w' hS => (by have z0 := A0 _ hS; have z1 := A1 _ hS; go_simp)⟩) k0 ?_
                  try simp only [Go.Act.put, List.setIfInBounds_toArray, List.set_cons_zero, List.set_cons_succ]
                  refine wpH_take (i := 11) (v := (.agg #[.int .i64 (X.b : Nat), .slice (some ⟨G, 0, none⟩) X.r cp, .int .u64 (X.t : Nat)])) (some 38) rfl rfl (by kernel_rfl) (by kernel_rfl) (by kernel_rfl) (fun _ _ _ h => h) (Or.inl ⟨by rfl, fun w' hS => (by have z0 := N0 _ hS; have z1 := N1 _ hS; have z2 := N2 _ hS; go_simp)⟩) k0 ?_
                  try simp only [Go.Act.put, List.setIfInBounds_toArray, List.set_cons_zero, List.set_cons_succ]
                  refine wpH_take (i := 12) (v := (.slice (some ⟨kb, off, none⟩) N c1)) (some 39) rfl rfl (by kernel_rfl) (by kernel_rfl) (by kernel_rfl) (fun _ _ _ h => h) (Or.inl ⟨by rfl, fun w' hS => (by go_simp)⟩) k0 ?_
                  try simp only [Go.Act.put, List.setIfInBounds_toArray, List.set_cons_zero, List.set_cons_succ]
                  refine wpH_take (i := 13) (v := (.int .i64 (i : Nat))) (some 40) rfl rfl (by kernel_rfl) (by kernel_rfl) (by kernel_rfl) (fun _ _ _ h => h) (Or.inl ⟨by rfl, fun w' hS => (by go_simp)⟩) k0 ?_
                  try simp only [Go.Act.put, List.setIfInBounds_toArray, List.set_cons_zero, List.set_cons_succ]
                  refine wpH_take (i := 14) (v := (.pointer (some ⟨kb, off + i * 2, none⟩))) (some 41) rfl rfl (by kernel_rfl) (by kernel_rfl) (by kernel_rfl) (fun _ _ _ h => h) (Or.inl ⟨by rfl, fun w' hS => (by go_simp)⟩) k0 ?_
                  try simp only [Go.Act.put, List.setIfInBounds_toArray, List.set_cons_zero, List.set_cons_succ]
                  refine wpH_take (i := 15) (v := (.agg #[.int .u16 x.1, .string x.2])) (some 42) rfl rfl (by kernel_rfl) (by kernel_rfl) (by kernel_rfl) (fun _ _ _ h => h) (Or.inl ⟨by rfl, fun w' hS => (by have z0 := L0 _ hS; have z1 := L1 _ hS; go_simp)⟩) k0 ?_
                  try simp only [Go.Act.put, List.setIfInBounds_toArray, List.set_cons_zero, List.set_cons_succ]
                  refine wpH_call (i := 10) (o := { dst := some 37, op := Op.call { callee := Callee.value (Operand.func 19), args := #[Operand.tmp 32, Operand.tmp 36], argTypes := #[29, 50] }, type := 3, pos := _, after := #[{ on := 5, ground := Ground.data }, { on := 9, ground := Ground.data }, { on := 4, ground := Ground.chain }, { on := 4, ground := Ground.guard }], guard := some (4, true) }) (by kernel_rfl) rfl (fun K' hK => ?_)
                  rw [if_pos (by rfl)]
                  go_simp
                  refine (HRY.out _ k0).mono ?_
                  rintro e w2 ⟨rfl, t1⟩
                  have k1 := k0.trans' t1
                  clear t1
                  refine hK.out _ _ k1 ?_
                  clear hK
                  try simp only [Go.Act.put, List.setIfInBounds_toArray, List.set_cons_zero, List.set_cons_succ]
                  refine wpH_call (i := 16) (o := { dst := some 43, op := Op.call { callee := Callee.value (Operand.func 19), args := #[Operand.tmp 38, Operand.tmp 42], argTypes := #[29, 50] }, type := 3, pos := _, after := #[{ on := 11, ground := Ground.data }, { on := 15, ground := Ground.data }, { on := 10, ground := Ground.chain }, { on := 4, ground := Ground.guard }], guard := some (4, true) }) (by kernel_rfl) rfl (fun K' hK => ?_)
                  rw [if_pos (by rfl)]
                  go_simp
                  refine (HRX.out _ k1).mono ?_
                  rintro e w3 ⟨rfl, t2⟩
                  have k2 := k1.trans' t2
                  clear t2
                  refine hK.out _ _ k2 ?_
                  clear hK
                  try simp only [Go.Act.put, List.setIfInBounds_toArray, List.set_cons_zero, List.set_cons_succ]
                  refine wpH_take (i := 17) (v := (.bool false)) (some 44) rfl rfl (by kernel_rfl) (by kernel_rfl) (by kernel_rfl) (fun _ _ _ h => h) (Or.inl ⟨by rfl, fun w' hS => (by go_simp)⟩) k2 ?_
                  try simp only [Go.Act.put, List.setIfInBounds_toArray, List.set_cons_zero, List.set_cons_succ]
                  refine wpH_take (i := 18) (v := (.bool false)) (some 45) rfl rfl (by kernel_rfl) (by kernel_rfl) (by kernel_rfl) (fun _ _ _ h => h) (Or.inl ⟨by rfl, fun w' hS => (by go_simp)⟩) k2 ?_
                  try simp only [Go.Act.put, List.setIfInBounds_toArray, List.set_cons_zero, List.set_cons_succ]
                  refine wpH_take (i := 19) (v := (.agg #[.int .i64 (X.b : Nat), .slice (some ⟨G, 0, none⟩) X.r cp, .int .u64 (X.t : Nat)])) (some 46) rfl rfl (by kernel_rfl) (by kernel_rfl) (by kernel_rfl) (fun _ _ _ h => h) (Or.inl ⟨by rfl, fun w' hS => (by have z0 := N0 _ hS; have z1 := N1 _ hS; have z2 := N2 _ hS; go_simp)⟩) k2 ?_
                  try simp only [Go.Act.put, List.setIfInBounds_toArray, List.set_cons_zero, List.set_cons_succ]
                  refine wpH_take (i := 20) (v := (.slice (some ⟨g, 0, none⟩) m c)) (some 47) rfl rfl (by kernel_rfl) (by kernel_rfl) (by kernel_rfl) (fun _ _ _ h => h) (Or.inl ⟨by rfl, fun w' hS => (by go_simp)⟩) k2 ?_
                  try simp only [Go.Act.put, List.setIfInBounds_toArray, List.set_cons_zero, List.set_cons_succ]
                  refine wpH_take (i := 21) (v := (.int .i64 (tt : Nat))) (some 48) rfl rfl (by kernel_rfl) (by kernel_rfl) (by kernel_rfl) (fun _ _ _ h => h) (Or.inl ⟨by rfl, fun w' hS => (by go_simp)⟩) k2 ?_
                  try simp only [Go.Act.put, List.setIfInBounds_toArray, List.set_cons_zero, List.set_cons_succ]
                  refine wpH_take (i := 22) (v := (.pointer (some ⟨g, tt * 2, none⟩))) (some 49) rfl rfl (by kernel_rfl) (by kernel_rfl) (by kernel_rfl) (fun _ _ _ h => h) (Or.inl ⟨by rfl, fun w' hS => (by go_simp)⟩) k2 ?_
                  try simp only [Go.Act.put, List.setIfInBounds_toArray, List.set_cons_zero, List.set_cons_succ]
                  refine wpH_take (i := 23) (v := (.agg #[.int .u16 y.1, .string y.2])) (some 50) rfl rfl (by kernel_rfl) (by kernel_rfl) (by kernel_rfl) (fun _ _ _ h => h) (Or.inl ⟨by rfl, fun w' hS => (by have z0 := A0 _ hS; have z1 := A1 _ hS; go_simp)⟩) k2 ?_
                  try simp only [Go.Act.put, List.setIfInBounds_toArray, List.set_cons_zero, List.set_cons_succ]
                  refine wpH_take (i := 25) (v := (.agg #[.int .i64 (X.b : Nat), .slice (some ⟨G, 0, none⟩) X.r cp, .int .u64 (X.t : Nat)])) (some 52) rfl rfl (by kernel_rfl) (by kernel_rfl) (by kernel_rfl) (fun _ _ _ h => h) (Or.inl ⟨by rfl, fun w' hS => (by have z0 := N0 _ hS; have z1 := N1 _ hS; have z2 := N2 _ hS; go_simp)⟩) k2 ?_
                  try simp only [Go.Act.put, List.setIfInBounds_toArray, List.set_cons_zero, List.set_cons_succ]
                  refine wpH_take (i := 26) (v := (.slice (some ⟨kb, off, none⟩) N c1)) (some 53) rfl rfl (by kernel_rfl) (by kernel_rfl) (by kernel_rfl) (fun _ _ _ h => h) (Or.inl ⟨by rfl, fun w' hS => (by go_simp)⟩) k2 ?_
                  try simp only [Go.Act.put, List.setIfInBounds_toArray, List.set_cons_zero, List.set_cons_succ]
                  refine wpH_take (i := 27) (v := (.int .i64 (i : Nat))) (some 54) rfl rfl (by kernel_rfl) (by kernel_rfl) (by kernel_rfl) (fun _ _ _ h => h) (Or.inl ⟨by rfl, fun w' hS => (by go_simp)⟩) k2 ?_
                  try simp only [Go.Act.put, List.setIfInBounds_toArray, List.set_cons_zero, List.set_cons_succ]
                  refine wpH_take (i := 28) (v := (.pointer (some ⟨kb, off + i * 2, none⟩))) (some 55) rfl rfl (by kernel_rfl) (by kernel_rfl) (by kernel_rfl) (fun _ _ _ h => h) (Or.inl ⟨by rfl, fun w' hS => (by go_simp)⟩) k2 ?_
                  try simp only [Go.Act.put, List.setIfInBounds_toArray, List.set_cons_zero, List.set_cons_succ]
                  refine wpH_take (i := 29) (v := (.agg #[.int .u16 x.1, .string x.2])) (some 56) rfl rfl (by kernel_rfl) (by kernel_rfl) (by kernel_rfl) (fun _ _ _ h => h) (Or.inl ⟨by rfl, fun w' hS => (by have z0 := L0 _ hS; have z1 := L1 _ hS; go_simp)⟩) k2 ?_
                  try simp only [Go.Act.put, List.setIfInBounds_toArray, List.set_cons_zero, List.set_cons_succ]
                  refine wpH_call (i := 24) (o := { dst := some 51, op := Op.call { callee := Callee.value (Operand.func 19), args := #[Operand.tmp 46, Operand.tmp 50], argTypes := #[29, 50] }, type := 3, pos := _, after := #[{ on := 19, ground := Ground.data }, { on := 23, ground := Ground.data }, { on := 18, ground := Ground.chain }, { on := 18, ground := Ground.guard }], guard := some (18, false) }) (by kernel_rfl) rfl (fun K' hK => ?_)
                  rw [if_pos (by rfl)]
                  go_simp
                  refine (HRY.out _ k2).mono ?_
                  rintro e w4 ⟨rfl, t3⟩
                  have k3 := k2.trans' t3
                  clear t3
                  refine hK.out _ _ k3 ?_
                  clear hK
                  try simp only [Go.Act.put, List.setIfInBounds_toArray, List.set_cons_zero, List.set_cons_succ]
                  refine wpH_call (i := 30) (o := { dst := some 57, op := Op.call { callee := Callee.value (Operand.func 19), args := #[Operand.tmp 52, Operand.tmp 56], argTypes := #[29, 50] }, type := 3, pos := _, after := #[{ on := 25, ground := Ground.data }, { on := 29, ground := Ground.data }, { on := 24, ground := Ground.chain }, { on := 18, ground := Ground.guard }], guard := some (18, false) }) (by kernel_rfl) rfl (fun K' hK => ?_)
                  rw [if_pos (by rfl)]
                  go_simp
                  refine (HRX.out _ k3).mono ?_
                  rintro e w5 ⟨rfl, t4⟩
                  have k4 := k3.trans' t4
                  clear t4
                  refine hK.out _ _ k4 ?_
                  clear hK
                  try simp only [Go.Act.put, List.setIfInBounds_toArray, List.set_cons_zero, List.set_cons_succ]
                  refine wpH_take (i := 31) (v := (.bool true)) (some 58) rfl rfl (by kernel_rfl) (by kernel_rfl) (by kernel_rfl) (fun _ _ _ h => h) (Or.inl ⟨by rfl, fun w' hS => (by go_simp)⟩) k4 ?_
                  try simp only [Go.Act.put, List.setIfInBounds_toArray, List.set_cons_zero, List.set_cons_succ]
                  refine wpH_take (i := 32) (v := (.bool true)) (some 59) rfl rfl (by kernel_rfl) (by kernel_rfl) (by kernel_rfl) (fun _ _ _ h => h) (Or.inl ⟨by rfl, fun w' hS => (by go_simp)⟩) k4 ?_
                  try simp only [Go.Act.put, List.setIfInBounds_toArray, List.set_cons_zero, List.set_cons_succ]
                  refine wpH_take (i := 33) (v := (.slice (some ⟨g, 0, none⟩) m c)) (some 60) rfl rfl (by kernel_rfl) (by kernel_rfl) (by kernel_rfl) (fun _ _ _ h => h) (Or.inl ⟨by rfl, fun w' hS => (by go_simp)⟩) k4 ?_
                  try simp only [Go.Act.put, List.setIfInBounds_toArray, List.set_cons_zero, List.set_cons_succ]
                  refine wpH_take (i := 34) (v := (.int .i64 (tt : Nat))) (some 61) rfl rfl (by kernel_rfl) (by kernel_rfl) (by kernel_rfl) (fun _ _ _ h => h) (Or.inl ⟨by rfl, fun w' hS => (by go_simp)⟩) k4 ?_
                  try simp only [Go.Act.put, List.setIfInBounds_toArray, List.set_cons_zero, List.set_cons_succ]
                  refine wpH_take (i := 35) (v := (.pointer (some ⟨g, tt * 2, none⟩))) (some 62) rfl rfl (by kernel_rfl) (by kernel_rfl) (by kernel_rfl) (fun _ _ _ h => h) (Or.inl ⟨by rfl, fun w' hS => (by go_simp)⟩) k4 ?_
                  try simp only [Go.Act.put, List.setIfInBounds_toArray, List.set_cons_zero, List.set_cons_succ]
                  refine wpH_take (i := 36) (v := (.agg #[.int .u16 y.1, .string y.2])) (some 63) rfl rfl (by kernel_rfl) (by kernel_rfl) (by kernel_rfl) (fun _ _ _ h => h) (Or.inl ⟨by rfl, fun w' hS => (by have z0 := A0 _ hS; have z1 := A1 _ hS; go_simp)⟩) k4 ?_
                  try simp only [Go.Act.put, List.setIfInBounds_toArray, List.set_cons_zero, List.set_cons_succ]
                  refine wpH_take (i := 37) (v := (.slice (some ⟨kb, off, none⟩) N c1)) (some 64) rfl rfl (by kernel_rfl) (by kernel_rfl) (by kernel_rfl) (fun _ _ _ h => h) (Or.inl ⟨by rfl, fun w' hS => (by go_simp)⟩) k4 ?_
                  try simp only [Go.Act.put, List.setIfInBounds_toArray, List.set_cons_zero, List.set_cons_succ]
                  refine wpH_take (i := 38) (v := (.int .i64 (i : Nat))) (some 65) rfl rfl (by kernel_rfl) (by kernel_rfl) (by kernel_rfl) (fun _ _ _ h => h) (Or.inl ⟨by rfl, fun w' hS => (by go_simp)⟩) k4 ?_
                  try simp only [Go.Act.put, List.setIfInBounds_toArray, List.set_cons_zero, List.set_cons_succ]
                  refine wpH_take (i := 39) (v := (.pointer (some ⟨kb, off + i * 2, none⟩))) (some 66) rfl rfl (by kernel_rfl) (by kernel_rfl) (by kernel_rfl) (fun _ _ _ h => h) (Or.inl ⟨by rfl, fun w' hS => (by go_simp)⟩) k4 ?_
                  try simp only [Go.Act.put, List.setIfInBounds_toArray, List.set_cons_zero, List.set_cons_succ]
                  refine wpH_take (i := 40) (v := (.agg #[.int .u16 x.1, .string x.2])) (some 67) rfl rfl (by kernel_rfl) (by kernel_rfl) (by kernel_rfl) (fun _ _ _ h => h) (Or.inl ⟨by rfl, fun w' hS => (by have z0 := L0 _ hS; have z1 := L1 _ hS; go_simp)⟩) k4 ?_
                  try simp only [Go.Act.put, List.setIfInBounds_toArray, List.set_cons_zero, List.set_cons_succ]
                  refine wpH_call (i := 41) (o := { dst := some 68, op := Op.call { callee := Callee.value (Operand.func 42), args := #[Operand.tmp 63, Operand.tmp 67], argTypes := #[50, 50] }, type := 3, pos := _, after := #[{ on := 36, ground := Ground.data }, { on := 40, ground := Ground.data }, { on := 32, ground := Ground.chain }, { on := 32, ground := Ground.guard }], guard := some (32, true) }) (by kernel_rfl) rfl (fun K' hK => ?_)
                  rw [if_pos (by rfl)]
                  go_simp
                  refine (HDY.out _).mono ?_
                  rintro e w6 ⟨rfl, t5⟩
                  have k5 := k4.trans' t5
                  clear t5
                  refine hK.out _ _ k5 ?_
                  clear hK
                  try simp only [Go.Act.put, List.setIfInBounds_toArray, List.set_cons_zero, List.set_cons_succ]
                  refine wpH_take (i := 42) (v := (.bool false)) (some 69) rfl rfl (by kernel_rfl) (by kernel_rfl) (by kernel_rfl) (fun _ _ _ h => h) (Or.inl ⟨by rfl, fun w' hS => (by go_simp)⟩) k5 ?_
                  try simp only [Go.Act.put, List.setIfInBounds_toArray, List.set_cons_zero, List.set_cons_succ]
                  refine wpH_take (i := 43) (v := (.bool false)) (some 70) rfl rfl (by kernel_rfl) (by kernel_rfl) (by kernel_rfl) (fun _ _ _ h => h) (Or.inl ⟨by rfl, fun w' hS => (by go_simp)⟩) k5 ?_
                  try simp only [Go.Act.put, List.setIfInBounds_toArray, List.set_cons_zero, List.set_cons_succ]
                  refine wpH_take (i := 44) (v := (.bool false)) (some 71) rfl rfl (by kernel_rfl) (by kernel_rfl) (by kernel_rfl) (fun _ _ _ h => h) (Or.inl ⟨by rfl, fun w' hS => (by go_simp)⟩) k5 ?_
                  try simp only [Go.Act.put, List.setIfInBounds_toArray, List.set_cons_zero, List.set_cons_succ]
                  refine wpH_take (i := 45) (v := (.bool false)) (some 72) rfl rfl (by kernel_rfl) (by kernel_rfl) (by kernel_rfl) (fun _ _ _ h => h) (Or.inl ⟨by rfl, fun w' hS => (by go_simp)⟩) k5 ?_
                  try simp only [Go.Act.put, List.setIfInBounds_toArray, List.set_cons_zero, List.set_cons_succ]
                  refine wpAnyH_done (by kernel_rfl) ?_ _
                  go_wp2
                  have HNEW : Hid (∀ wF bF gF cF, bF = w6.heap.size → Touch [] w6 wF → wF.ownsRow bF 50 2 (.slice (some ⟨gF, 0, none⟩) (m + 1) cF) (m + 1) (Un.cellsK (O.take tt ++ [x] ++ O.drop tt)) → m + 1 = (O.take tt ++ [x] ++ O.drop tt).length ∧ Touch [] w1 wF ∧ (O.take tt ++ [x] ++ O.drop tt).Perm (mayL (U.take (i + 1))) ∧ (O.take tt ++ [x] ++ O.drop tt).Pairwise (leX X) ∧ (∀ z ∈ O.take tt ++ [x] ++ O.drop tt, Ok z) ∧ wF.ownsRow w.heap.size 50 2 (.slice (some ⟨gF, 0, none⟩) (m + 1) cF) (m + 1) (Un.cellsK (O.take tt ++ [x] ++ O.drop tt))) := hid (fun wF bF gF cF eb tF oF => by
                    have TT := k5.trans' tF
                    refine ⟨?_, HW1.out.trans' TT, by rw [HMY.out]; exact insX_perm x tt HI.out.2.2.1, HE.out, fun z hz => ?_, own_base oF (by rw [eb]; exact (HTV.out.trans' (HT1.out.trans' (HW1.out.trans' k5))).size)⟩
                    · simp only [List.length_append, List.length_take, List.length_drop, List.length_singleton]
                      have := HI.out.1
                      omega
                    · rw [List.append_assoc, List.mem_append, List.mem_append, List.mem_singleton] at hz
                      rcases hz with hz | rfl | hz
                      · exact HI.out.2.2.2.2.1 z (List.mem_of_mem_take hz)
                      · exact hok
                      · exact HI.out.2.2.2.2.1 z (List.mem_of_mem_drop hz))
                  have C0 : ∀ w2, Touch [] w6 w2 → w2.cell? ⟨kb, off + i * 2, none⟩ = some (.int .u16 x.1) := fun w2 t => L0 w2 (k5.trans' t)
                  have C1 : ∀ w2, Touch [] w6 w2 → w2.cell? ⟨kb, off + i * 2 + 1, none⟩ = some (.string x.2) := fun w2 t => L1 w2 (k5.trans' t)
                  have HP1 : Hid (∀ w2, Touch [] w6 w2 → Rs 50 2 w2 (.slice (some ⟨g, 0, none⟩) tt c) tt (Un.cellsK (O.take tt))) := hid (fun w2 t => by
                    have := rs_part (i := 0) (m := tt) (own_touch HI.out.2.2.2.2.2 (k5.trans' t) (fun _ _ e => by cases e)) HI.out.1 (by omega)
                    simpa using this)
                  have hmc : m ≤ c ∧ c ≤ 9223372036854775807 := by
                    rcases own_addr HI.out.2.2.2.2.2 with ⟨q, _⟩ | ⟨_, _, _, q1, q2⟩
                    · cases q
                    · unfold maxLen at q2; exact ⟨q1, by omega⟩
                  obtain ⟨hmc, hcc⟩ := hmc
                  obtain ⟨of2, hof⟩ : ∃ of2, of2 = if c = tt then 0 else tt * 2 := ⟨_, rfl⟩
                  have HO1 : Hid (c = tt → of2 = 0) := hid (fun h => by rw [hof, if_pos h])
                  have HO2 : Hid (¬ c = tt → of2 = tt * 2) := hid (fun h => by rw [hof, if_neg h])
                  clear hof
                  have HP2 : Hid (∀ w2, Touch [] w6 w2 → Rs 50 2 w2 (.slice (some ⟨g, of2, none⟩) (m - tt) (c - tt)) (m - tt) (Un.cellsK (O.drop tt))) := hid (fun w2 t => by
                    by_cases hq : c = tt
                    · exact ⟨by rw [Un.cellsK_len, List.length_drop]; have := HI.out.1; omega, _, _, rfl, by omega, (fun q => by cases q), fun h0 => by omega⟩
                    · have := rs_part (i := tt) (m := m - tt) (own_touch HI.out.2.2.2.2.2 (k5.trans' t) (fun _ _ e => by cases e)) HI.out.1 (by omega)
                      rw [List.take_of_length_le (by rw [List.length_drop]; have := HI.out.1; omega)] at this
                      rw [HO2.out hq]
                      exact this)
                  have HE1 : Hid ((O.take tt).length = tt) := hid (by rw [List.length_take]; have := HI.out.1; omega)
                  have HE2 : Hid ((O.take tt ++ [x]).length = tt + 1) := hid (by rw [List.length_append, HE1.out]; rfl)
                  have HE3 : Hid ((O.take tt ++ [x] ++ O.drop tt).length = m + 1) := hid (by rw [List.length_append, HE2.out, List.length_drop]; have := HI.out.1; omega)
                  have z3 : (tt : Int) ≤ (m : Int) := by omega
                  have z4 : (m : Int) ≤ (c : Int) := by omega
                  have z5 : (tt : Int) ≤ (c : Int) := by omega
                  clear L0 L1 HE HI HJ HMY HW1 hok
                  generalize O.take tt = P1 at *
                  generalize O.drop tt = P2 at *
                  obtain ⟨W4, hW4⟩ : ∃ W4, W4 = w6 := ⟨_, rfl⟩
                  rw [← hW4] at HNEW C0 C1 HP1 HP2 ⊢
                  clear hW4
                  refine wp_region_H (S := fun w' => Touch [] W4 w') (by kernel_rfl) ?_
                  obtain ⟨D0, hD0⟩ : ∃ D0, D0 = W4.drew := ⟨_, rfl⟩
                  rw [← hD0]
                  have q0 : SiS W4 D0 x none none := ⟨by rw [hD0]; exact (Touch.refl _ _).drew, fun _ _ e => (by cases e), fun _ e => (by cases e), fun _ _ _ _ e => (by cases e)⟩
                  have k0 := q0.t
                  clear hD0
                  refine wpH_take (i := 1) (v := (.slice (some ⟨g, 0, none⟩) m c)) (some 76) rfl rfl (by kernel_rfl) (by kernel_rfl) (by kernel_rfl) (fun _ _ _ h => h) (Or.inl ⟨by rfl, fun w' hS => (by go_simp)⟩) k0 ?_
                  try simp only [Go.Act.put, List.setIfInBounds_toArray, List.set_cons_zero, List.set_cons_succ]
                  refine wpH_take (i := 2) (v := (.int .i64 (tt : Nat))) (some 77) rfl rfl (by kernel_rfl) (by kernel_rfl) (by kernel_rfl) (fun _ _ _ h => h) (Or.inl ⟨by rfl, fun w' hS => (by go_simp)⟩) k0 ?_
                  try simp only [Go.Act.put, List.setIfInBounds_toArray, List.set_cons_zero, List.set_cons_succ]
                  refine wpH_take (i := 3) (v := (.slice (some ⟨g, 0, none⟩) tt c)) (some 78) rfl rfl (by kernel_rfl) (by kernel_rfl) (by kernel_rfl) (fun _ _ _ h => h) (Or.inl ⟨by rfl, fun w' hS => (by go_simp)⟩) k0 ?_
                  try simp only [Go.Act.put, List.setIfInBounds_toArray, List.set_cons_zero, List.set_cons_succ]
                  refine wpH_take (i := 5) (v := (.slice (some ⟨kb, off, none⟩) N c1)) (some 80) rfl rfl (by kernel_rfl) (by kernel_rfl) (by kernel_rfl) (fun _ _ _ h => h) (Or.inl ⟨by rfl, fun w' hS => (by go_simp)⟩) k0 ?_
                  try simp only [Go.Act.put, List.setIfInBounds_toArray, List.set_cons_zero, List.set_cons_succ]
                  refine wpH_take (i := 6) (v := (.int .i64 (i : Nat))) (some 81) rfl rfl (by kernel_rfl) (by kernel_rfl) (by kernel_rfl) (fun _ _ _ h => h) (Or.inl ⟨by rfl, fun w' hS => (by go_simp)⟩) k0 ?_
                  try simp only [Go.Act.put, List.setIfInBounds_toArray, List.set_cons_zero, List.set_cons_succ]
                  refine wpH_take (i := 7) (v := (.pointer (some ⟨kb, off + i * 2, none⟩))) (some 82) rfl rfl (by kernel_rfl) (by kernel_rfl) (by kernel_rfl) (fun _ _ _ h => h) (Or.inl ⟨by rfl, fun w' hS => (by go_simp)⟩) k0 ?_
                  try simp only [Go.Act.put, List.setIfInBounds_toArray, List.set_cons_zero, List.set_cons_succ]
                  refine wpH_take (i := 8) (v := (.agg #[.int .u16 x.1, .string x.2])) (some 83) rfl rfl (by kernel_rfl) (by kernel_rfl) (by kernel_rfl) (fun _ _ _ h => h) (Or.inl ⟨by rfl, fun w' hS => (by have z0 := C0 _ hS; have z1 := C1 _ hS; go_simp)⟩) k0 ?_
                  try simp only [Go.Act.put, List.setIfInBounds_toArray, List.set_cons_zero, List.set_cons_succ]
                  refine wpH_take (i := 11) (v := (.slice (some ⟨g, 0, none⟩) m c)) (some 86) rfl rfl (by kernel_rfl) (by kernel_rfl) (by kernel_rfl) (fun _ _ _ h => h) (Or.inl ⟨by rfl, fun w' hS => (by go_simp)⟩) k0 ?_
                  try simp only [Go.Act.put, List.setIfInBounds_toArray, List.set_cons_zero, List.set_cons_succ]
                  refine wpH_take (i := 12) (v := (.int .i64 (tt : Nat))) (some 87) rfl rfl (by kernel_rfl) (by kernel_rfl) (by kernel_rfl) (fun _ _ _ h => h) (Or.inl ⟨by rfl, fun w' hS => (by go_simp)⟩) k0 ?_
                  try simp only [Go.Act.put, List.setIfInBounds_toArray, List.set_cons_zero, List.set_cons_succ]
                  refine wpH_take (i := 13) (v := (.slice (some ⟨g, of2, none⟩) (m - tt) (c - tt))) (some 88) rfl rfl (by kernel_rfl) (by kernel_rfl) (by kernel_rfl) (fun _ _ _ h => h) (Or.inl ⟨by rfl, fun w' hS => (by go_simp; by_cases hq : c = tt <;> first | (have := HO1.out hq; simp_all; done) | (have := HO2.out hq; simp_all; done))⟩) k0 ?_
                  try simp only [Go.Act.put, List.setIfInBounds_toArray, List.set_cons_zero, List.set_cons_succ]
                  refine wpH_ready (rs := [0, 9]) (by kernel_rfl) (by simp) ?_
                  refine AllH.cons (o := { dst := some 75, op := Op.buildSlice 55 0 #[], type := 55, pos := _, after := #[], guard := none }) rfl (fun K' hK => ?_) ?_
                  · rw [if_pos (by rfl)]
                    go_simp
                    refine hK.out _ _ (k0.alloc _) ?_
                    clear hK
                    try simp only [Go.Act.put, List.setIfInBounds_toArray, List.set_cons_zero, List.set_cons_succ]
                    have q1 := q0.new0
                    obtain ⟨E1, hE1⟩ : ∃ E, E = D0.alloc (.cells #[] 50) := ⟨_, rfl⟩
                    rw [← hE1] at q1 ⊢
                    clear hE1
                    have k1 := q1.t
                    refine wpH_ready (rs := [4, 9]) (by kernel_rfl) (by simp) ?_
                    refine AllH.cons (o := { dst := some 79, op := Op.call { callee := Callee.builtin Builtin.append, args := #[Operand.tmp 75, Operand.tmp 78], argTypes := #[55, 55] }, type := 55, pos := _, after := #[{ on := 0, ground := Ground.data }, { on := 3, ground := Ground.data }], guard := none }) rfl (fun K' hK => ?_) ?_
                    · rw [if_pos (by rfl)]
                      refine wp_append_rs _ _ 55 50 rfl _ 2 24 Un.info31 Try.underlying55 rfl (by decide) W4.heap.size (.slice (some ⟨D0.heap.size, 0, none⟩) 0 0) 0 [] rfl (q1.row _ _ rfl) (.slice (some ⟨g, 0, none⟩) tt c) tt (Un.cellsK P1) rfl (HP1.out _ k1) (cellsK_one' P1) (by have := HE1.out; have := HE2.out; unfold maxLen; omega) (by have := HE1.out; have := HE2.out; omega) k1.size ?_
                      intro v2 w2 o2 g2 p2
                      rw [Nat.zero_add, List.nil_append] at o2
                      obtain ⟨a2, c2, e2⟩ := own_form o2
                      subst e2
                      have q2 := q1.app (A5 := P1) (by rw [HE1.out]; exact o2) g2 p2
                      have k2 := q2.t
                      clear o2 g2 p2
                      refine hK.out _ _ k2 ?_
                      clear hK
                      try simp only [Go.Act.put, List.setIfInBounds_toArray, List.set_cons_zero, List.set_cons_succ]
                      refine wpH_call (i := 9) (o := { dst := some 84, op := Op.buildSlice 55 1 #[(0, Operand.tmp 83)], type := 55, pos := _, after := #[{ on := 8, ground := Ground.data }], guard := none }) (by kernel_rfl) rfl (fun K' hK => ?_)
                      rw [if_pos (by rfl)]
                      go_simp
                      refine hK.out _ _ (k2.alloc _) ?_
                      clear hK
                      try simp only [Go.Act.put, List.setIfInBounds_toArray, List.set_cons_zero, List.set_cons_succ]
                      have q3 := q2.newx
                      obtain ⟨E3, hE3⟩ : ∃ E, E = w2.alloc (.cells #[.int .u16 x.1, .string x.2] 50) := ⟨_, rfl⟩
                      rw [← hE3] at q3 ⊢
                      clear hE3
                      have k3 := q3.t
                      refine wpH_call (i := 10) (o := { dst := some 85, op := Op.call { callee := Callee.builtin Builtin.append, args := #[Operand.tmp 79, Operand.tmp 84], argTypes := #[55, 55] }, type := 55, pos := _, after := #[{ on := 4, ground := Ground.data }, { on := 9, ground := Ground.data }, { on := 4, ground := Ground.chain }], guard := none }) (by kernel_rfl) rfl (fun K' hK => ?_)
                      rw [if_pos (by rfl)]
                      refine wp_append_rs _ _ 55 50 rfl _ 2 24 Un.info31 Try.underlying55 rfl (by decide) W4.heap.size (.slice a2 tt c2) P1.length (Un.cellsK P1) rfl (q3.row _ _ rfl) (.slice (some ⟨w2.heap.size, 0, none⟩) 1 1) 1 [.int .u16 x.1, .string x.2] rfl (q3.one _ rfl).1 (by simp [Value.oneCell']) (by have := HE1.out; have := HE2.out; unfold maxLen; omega) (by have := HE1.out; have := HE2.out; omega) k3.size ?_
                      intro v4 w4 o4 g4 p4
                      rw [HE1.out] at o4
                      obtain ⟨a4, c4, e4⟩ := own_form o4
                      subst e4
                      have q4 := q3.app (A5 := P1 ++ [x]) (by rw [HE2.out, Un.cellsK_app]; exact o4) g4 p4
                      have k4 := q4.t
                      clear o4 g4 p4
                      refine hK.out _ _ k4 ?_
                      clear hK
                      try simp only [Go.Act.put, List.setIfInBounds_toArray, List.set_cons_zero, List.set_cons_succ]
                      refine wpH_call (i := 14) (o := { dst := some 89, op := Op.call { callee := Callee.builtin Builtin.append, args := #[Operand.tmp 85, Operand.tmp 88], argTypes := #[55, 55] }, type := 55, pos := _, after := #[{ on := 10, ground := Ground.data }, { on := 13, ground := Ground.data }, { on := 10, ground := Ground.chain }], guard := none }) (by kernel_rfl) rfl (fun K' hK => ?_)
                      rw [if_pos (by rfl)]
                      refine wp_append_rs _ _ 55 50 rfl _ 2 24 Un.info31 Try.underlying55 rfl (by decide) W4.heap.size (.slice a4 (tt + 1) c4) (P1 ++ [x]).length (Un.cellsK (P1 ++ [x])) rfl (q4.row _ _ rfl) (.slice (some ⟨g, of2, none⟩) (m - tt) (c - tt)) (m - tt) (Un.cellsK P2) rfl (HP2.out _ k4) (cellsK_one' P2) (by have := HE1.out; have := HE2.out; unfold maxLen; omega) (by have := HE1.out; have := HE2.out; omega) k4.size ?_
                      intro v5 w5 o5 g5 p5
                      rw [HE2.out, ← Un.cellsK_app, show tt + 1 + (m - tt) = m + 1 by omega] at o5
                      obtain ⟨a5, c5, e5, -, -⟩ := own_some o5 (by omega)
                      subst e5
                      have q5 := q4.app (A5 := P1 ++ [x] ++ P2) (by rw [HE3.out]; exact o5) g5 p5
                      have k5 := q5.t
                      have HF := hid (HNEW.out _ _ _ _ rfl k5 o5)
                      clear o5 g5 p5
                      refine hK.out _ _ k5 ?_
                      clear hK
                      try simp only [Go.Act.put, List.setIfInBounds_toArray, List.set_cons_zero, List.set_cons_succ]
                      refine wpH_take (i := 15) (v := (.slice (some ⟨a5, 0, none⟩) (m + 1) c5)) (some 7) rfl rfl (by kernel_rfl) (by kernel_rfl) (by kernel_rfl) (fun _ _ _ h => h) (Or.inl ⟨by rfl, fun w' hS => (by go_simp)⟩) k5 ?_
                      try simp only [Go.Act.put, List.setIfInBounds_toArray, List.set_cons_zero, List.set_cons_succ]
                      refine wpAnyH_done (by kernel_rfl) ?_ _
                      clear C0 C1 HP1 HP2 HNEW HO1 HO2
                      go_wp2
                      exact ⟨⟨i + 1, a5, c5, m + 1, _, by omega, by omega, rfl, rfl, HF⟩, by simp [intOf]; omega⟩
                    refine AllH.cons (o := { dst := some 84, op := Op.buildSlice 55 1 #[(0, Operand.tmp 83)], type := 55, pos := _, after := #[{ on := 8, ground := Ground.data }], guard := none }) rfl (fun K' hK => ?_) ?_
                    · rw [if_pos (by rfl)]
                      go_simp
                      refine hK.out _ _ (k1.alloc _) ?_
                      clear hK
                      try simp only [Go.Act.put, List.setIfInBounds_toArray, List.set_cons_zero, List.set_cons_succ]
                      have q6 := q1.newx
                      obtain ⟨E6, hE6⟩ : ∃ E, E = E1.alloc (.cells #[.int .u16 x.1, .string x.2] 50) := ⟨_, rfl⟩
                      rw [← hE6] at q6 ⊢
                      clear hE6
                      have k6 := q6.t
                      refine wpH_call (i := 4) (o := { dst := some 79, op := Op.call { callee := Callee.builtin Builtin.append, args := #[Operand.tmp 75, Operand.tmp 78], argTypes := #[55, 55] }, type := 55, pos := _, after := #[{ on := 0, ground := Ground.data }, { on := 3, ground := Ground.data }], guard := none }) (by kernel_rfl) rfl (fun K' hK => ?_)
                      rw [if_pos (by rfl)]
                      refine wp_append_rs _ _ 55 50 rfl _ 2 24 Un.info31 Try.underlying55 rfl (by decide) W4.heap.size (.slice (some ⟨D0.heap.size, 0, none⟩) 0 0) 0 [] rfl (q6.row _ _ rfl) (.slice (some ⟨g, 0, none⟩) tt c) tt (Un.cellsK P1) rfl (HP1.out _ k6) (cellsK_one' P1) (by have := HE1.out; have := HE2.out; unfold maxLen; omega) (by have := HE1.out; have := HE2.out; omega) k6.size ?_
                      intro v7 w7 o7 g7 p7
                      rw [Nat.zero_add, List.nil_append] at o7
                      obtain ⟨a7, c7, e7⟩ := own_form o7
                      subst e7
                      have q7 := q6.app (A5 := P1) (by rw [HE1.out]; exact o7) g7 p7
                      have k7 := q7.t
                      clear o7 g7 p7
                      refine hK.out _ _ k7 ?_
                      clear hK
                      try simp only [Go.Act.put, List.setIfInBounds_toArray, List.set_cons_zero, List.set_cons_succ]
                      refine wpH_call (i := 10) (o := { dst := some 85, op := Op.call { callee := Callee.builtin Builtin.append, args := #[Operand.tmp 79, Operand.tmp 84], argTypes := #[55, 55] }, type := 55, pos := _, after := #[{ on := 4, ground := Ground.data }, { on := 9, ground := Ground.data }, { on := 4, ground := Ground.chain }], guard := none }) (by kernel_rfl) rfl (fun K' hK => ?_)
                      rw [if_pos (by rfl)]
                      refine wp_append_rs _ _ 55 50 rfl _ 2 24 Un.info31 Try.underlying55 rfl (by decide) W4.heap.size (.slice a7 tt c7) P1.length (Un.cellsK P1) rfl (q7.row _ _ rfl) (.slice (some ⟨E1.heap.size, 0, none⟩) 1 1) 1 [.int .u16 x.1, .string x.2] rfl (q7.one _ rfl).1 (by simp [Value.oneCell']) (by have := HE1.out; have := HE2.out; unfold maxLen; omega) (by have := HE1.out; have := HE2.out; omega) k7.size ?_
                      intro v8 w8 o8 g8 p8
                      rw [HE1.out] at o8
                      obtain ⟨a8, c8, e8⟩ := own_form o8
                      subst e8
                      have q8 := q7.app (A5 := P1 ++ [x]) (by rw [HE2.out, Un.cellsK_app]; exact o8) g8 p8
                      have k8 := q8.t
                      clear o8 g8 p8
                      refine hK.out _ _ k8 ?_
                      clear hK
                      try simp only [Go.Act.put, List.setIfInBounds_toArray, List.set_cons_zero, List.set_cons_succ]
                      refine wpH_call (i := 14) (o := { dst := some 89, op := Op.call { callee := Callee.builtin Builtin.append, args := #[Operand.tmp 85, Operand.tmp 88], argTypes := #[55, 55] }, type := 55, pos := _, after := #[{ on := 10, ground := Ground.data }, { on := 13, ground := Ground.data }, { on := 10, ground := Ground.chain }], guard := none }) (by kernel_rfl) rfl (fun K' hK => ?_)
                      rw [if_pos (by rfl)]
                      refine wp_append_rs _ _ 55 50 rfl _ 2 24 Un.info31 Try.underlying55 rfl (by decide) W4.heap.size (.slice a8 (tt + 1) c8) (P1 ++ [x]).length (Un.cellsK (P1 ++ [x])) rfl (q8.row _ _ rfl) (.slice (some ⟨g, of2, none⟩) (m - tt) (c - tt)) (m - tt) (Un.cellsK P2) rfl (HP2.out _ k8) (cellsK_one' P2) (by have := HE1.out; have := HE2.out; unfold maxLen; omega) (by have := HE1.out; have := HE2.out; omega) k8.size ?_
                      intro v9 w9 o9 g9 p9
                      rw [HE2.out, ← Un.cellsK_app, show tt + 1 + (m - tt) = m + 1 by omega] at o9
                      obtain ⟨a9, c9, e9, -, -⟩ := own_some o9 (by omega)
                      subst e9
                      have q9 := q8.app (A5 := P1 ++ [x] ++ P2) (by rw [HE3.out]; exact o9) g9 p9
                      have k9 := q9.t
                      have HF := hid (HNEW.out _ _ _ _ rfl k9 o9)
                      clear o9 g9 p9
                      refine hK.out _ _ k9 ?_
                      clear hK
                      try simp only [Go.Act.put, List.setIfInBounds_toArray, List.set_cons_zero, List.set_cons_succ]
                      refine wpH_take (i := 15) (v := (.slice (some ⟨a9, 0, none⟩) (m + 1) c9)) (some 7) rfl rfl (by kernel_rfl) (by kernel_rfl) (by kernel_rfl) (fun _ _ _ h => h) (Or.inl ⟨by rfl, fun w' hS => (by go_simp)⟩) k9 ?_
                      try simp only [Go.Act.put, List.setIfInBounds_toArray, List.set_cons_zero, List.set_cons_succ]
                      refine wpAnyH_done (by kernel_rfl) ?_ _
                      clear C0 C1 HP1 HP2 HNEW HO1 HO2
                      go_wp2
                      exact ⟨⟨i + 1, a9, c9, m + 1, _, by omega, by omega, rfl, rfl, HF⟩, by simp [intOf]; omega⟩
                    exact AllH.nil
                  refine AllH.cons (o := { dst := some 84, op := Op.buildSlice 55 1 #[(0, Operand.tmp 83)], type := 55, pos := _, after := #[{ on := 8, ground := Ground.data }], guard := none }) rfl (fun K' hK => ?_) ?_
                  · rw [if_pos (by rfl)]
                    go_simp
                    refine hK.out _ _ (k0.alloc _) ?_
                    clear hK
                    try simp only [Go.Act.put, List.setIfInBounds_toArray, List.set_cons_zero, List.set_cons_succ]
                    have q10 := q0.newx
                    obtain ⟨E10, hE10⟩ : ∃ E, E = D0.alloc (.cells #[.int .u16 x.1, .string x.2] 50) := ⟨_, rfl⟩
                    rw [← hE10] at q10 ⊢
                    clear hE10
                    have k10 := q10.t
                    refine wpH_call (i := 0) (o := { dst := some 75, op := Op.buildSlice 55 0 #[], type := 55, pos := _, after := #[], guard := none }) (by kernel_rfl) rfl (fun K' hK => ?_)
                    rw [if_pos (by rfl)]
                    go_simp
                    refine hK.out _ _ (k10.alloc _) ?_
                    clear hK
                    try simp only [Go.Act.put, List.setIfInBounds_toArray, List.set_cons_zero, List.set_cons_succ]
                    have q11 := q10.new0
                    obtain ⟨E11, hE11⟩ : ∃ E, E = E10.alloc (.cells #[] 50) := ⟨_, rfl⟩
                    rw [← hE11] at q11 ⊢
                    clear hE11
                    have k11 := q11.t
                    refine wpH_call (i := 4) (o := { dst := some 79, op := Op.call { callee := Callee.builtin Builtin.append, args := #[Operand.tmp 75, Operand.tmp 78], argTypes := #[55, 55] }, type := 55, pos := _, after := #[{ on := 0, ground := Ground.data }, { on := 3, ground := Ground.data }], guard := none }) (by kernel_rfl) rfl (fun K' hK => ?_)
                    rw [if_pos (by rfl)]
                    refine wp_append_rs _ _ 55 50 rfl _ 2 24 Un.info31 Try.underlying55 rfl (by decide) W4.heap.size (.slice (some ⟨E10.heap.size, 0, none⟩) 0 0) 0 [] rfl (q11.row _ _ rfl) (.slice (some ⟨g, 0, none⟩) tt c) tt (Un.cellsK P1) rfl (HP1.out _ k11) (cellsK_one' P1) (by have := HE1.out; have := HE2.out; unfold maxLen; omega) (by have := HE1.out; have := HE2.out; omega) k11.size ?_
                    intro v12 w12 o12 g12 p12
                    rw [Nat.zero_add, List.nil_append] at o12
                    obtain ⟨a12, c12, e12⟩ := own_form o12
                    subst e12
                    have q12 := q11.app (A5 := P1) (by rw [HE1.out]; exact o12) g12 p12
                    have k12 := q12.t
                    clear o12 g12 p12
                    refine hK.out _ _ k12 ?_
                    clear hK
                    try simp only [Go.Act.put, List.setIfInBounds_toArray, List.set_cons_zero, List.set_cons_succ]
                    refine wpH_call (i := 10) (o := { dst := some 85, op := Op.call { callee := Callee.builtin Builtin.append, args := #[Operand.tmp 79, Operand.tmp 84], argTypes := #[55, 55] }, type := 55, pos := _, after := #[{ on := 4, ground := Ground.data }, { on := 9, ground := Ground.data }, { on := 4, ground := Ground.chain }], guard := none }) (by kernel_rfl) rfl (fun K' hK => ?_)
                    rw [if_pos (by rfl)]
                    refine wp_append_rs _ _ 55 50 rfl _ 2 24 Un.info31 Try.underlying55 rfl (by decide) W4.heap.size (.slice a12 tt c12) P1.length (Un.cellsK P1) rfl (q12.row _ _ rfl) (.slice (some ⟨D0.heap.size, 0, none⟩) 1 1) 1 [.int .u16 x.1, .string x.2] rfl (q12.one _ rfl).1 (by simp [Value.oneCell']) (by have := HE1.out; have := HE2.out; unfold maxLen; omega) (by have := HE1.out; have := HE2.out; omega) k12.size ?_
                    intro v13 w13 o13 g13 p13
                    rw [HE1.out] at o13
                    obtain ⟨a13, c13, e13⟩ := own_form o13
                    subst e13
                    have q13 := q12.app (A5 := P1 ++ [x]) (by rw [HE2.out, Un.cellsK_app]; exact o13) g13 p13
                    have k13 := q13.t
                    clear o13 g13 p13
                    refine hK.out _ _ k13 ?_
                    clear hK
                    try simp only [Go.Act.put, List.setIfInBounds_toArray, List.set_cons_zero, List.set_cons_succ]
                    refine wpH_call (i := 14) (o := { dst := some 89, op := Op.call { callee := Callee.builtin Builtin.append, args := #[Operand.tmp 85, Operand.tmp 88], argTypes := #[55, 55] }, type := 55, pos := _, after := #[{ on := 10, ground := Ground.data }, { on := 13, ground := Ground.data }, { on := 10, ground := Ground.chain }], guard := none }) (by kernel_rfl) rfl (fun K' hK => ?_)
                    rw [if_pos (by rfl)]
                    refine wp_append_rs _ _ 55 50 rfl _ 2 24 Un.info31 Try.underlying55 rfl (by decide) W4.heap.size (.slice a13 (tt + 1) c13) (P1 ++ [x]).length (Un.cellsK (P1 ++ [x])) rfl (q13.row _ _ rfl) (.slice (some ⟨g, of2, none⟩) (m - tt) (c - tt)) (m - tt) (Un.cellsK P2) rfl (HP2.out _ k13) (cellsK_one' P2) (by have := HE1.out; have := HE2.out; unfold maxLen; omega) (by have := HE1.out; have := HE2.out; omega) k13.size ?_
                    intro v14 w14 o14 g14 p14
                    rw [HE2.out, ← Un.cellsK_app, show tt + 1 + (m - tt) = m + 1 by omega] at o14
                    obtain ⟨a14, c14, e14, -, -⟩ := own_some o14 (by omega)
                    subst e14
                    have q14 := q13.app (A5 := P1 ++ [x] ++ P2) (by rw [HE3.out]; exact o14) g14 p14
                    have k14 := q14.t
                    have HF := hid (HNEW.out _ _ _ _ rfl k14 o14)
                    clear o14 g14 p14
                    refine hK.out _ _ k14 ?_
                    clear hK
                    try simp only [Go.Act.put, List.setIfInBounds_toArray, List.set_cons_zero, List.set_cons_succ]
                    refine wpH_take (i := 15) (v := (.slice (some ⟨a14, 0, none⟩) (m + 1) c14)) (some 7) rfl rfl (by kernel_rfl) (by kernel_rfl) (by kernel_rfl) (fun _ _ _ h => h) (Or.inl ⟨by rfl, fun w' hS => (by go_simp)⟩) k14 ?_
                    try simp only [Go.Act.put, List.setIfInBounds_toArray, List.set_cons_zero, List.set_cons_succ]
                    refine wpAnyH_done (by kernel_rfl) ?_ _
                    clear C0 C1 HP1 HP2 HNEW HO1 HO2
                    go_wp2
                    exact ⟨⟨i + 1, a14, c14, m + 1, _, by omega, by omega, rfl, rfl, HF⟩, by simp [intOf]; omega⟩
                  exact AllH.nil
              · have HE := hid (HJ2.out (fun q => by
                  rcases HCL.out.1 q with q | q
                  · exact h1 q
                  · exact h2 q.1.symm))
                have h1n : cy ≤ cx := by omega
                have h2n : ¬ cy = cx := by omega
                clear HCL HJ1 HJ2
                go_wp2
                refine wp_region_H (S := fun w' => Touch [] wo w') (by kernel_rfl) ?_
                obtain ⟨WD, hWD⟩ : ∃ WD, WD = wr.drew := ⟨_, rfl⟩
                have k0 : Touch [] wo WD := by rw [hWD]; exact TQ.drew
                rw [← hWD]
                clear hWD
                refine wpH_take (i := 0) (v := (.int .i64 (tt : Nat))) (some 27) rfl rfl (by kernel_rfl) (by kernel_rfl) (by kernel_rfl) (fun _ _ _ h => h) (Or.inl ⟨by rfl, fun w' hS => (by go_simp)⟩) k0 ?_
                try simp only [Go.Act.put, List.setIfInBounds_toArray, List.set_cons_zero, List.set_cons_succ]
                refine wpH_take (i := 1) (v := (.slice (some ⟨g, 0, none⟩) m c)) (some 28) rfl rfl (by kernel_rfl) (by kernel_rfl) (by kernel_rfl) (fun _ _ _ h => h) (Or.inl ⟨by rfl, fun w' hS => (by go_simp)⟩) k0 ?_
                try simp only [Go.Act.put, List.setIfInBounds_toArray, List.set_cons_zero, List.set_cons_succ]
                refine wpH_take (i := 2) (v := (.int .i64 (m : Nat))) (some 29) rfl rfl (by kernel_rfl) (by kernel_rfl) (by kernel_rfl) (fun _ _ _ h => h) (Or.inl ⟨by rfl, fun w' hS => (by go_simp)⟩) k0 ?_
                try simp only [Go.Act.put, List.setIfInBounds_toArray, List.set_cons_zero, List.set_cons_succ]
                refine wpH_take (i := 3) (v := (.bool true)) (some 30) rfl rfl (by kernel_rfl) (by kernel_rfl) (by kernel_rfl) (fun _ _ _ h => h) (Or.inl ⟨by rfl, fun w' hS => (by go_simp)⟩) k0 ?_
                try simp only [Go.Act.put, List.setIfInBounds_toArray, List.set_cons_zero, List.set_cons_succ]
                refine wpH_take (i := 4) (v := (.bool true)) (some 31) rfl rfl (by kernel_rfl) (by kernel_rfl) (by kernel_rfl) (fun _ _ _ h => h) (Or.inl ⟨by rfl, fun w' hS => (by go_simp)⟩) k0 ?_
                try simp only [Go.Act.put, List.setIfInBounds_toArray, List.set_cons_zero, List.set_cons_succ]
                refine wpH_take (i := 5) (v := (.agg #[.int .i64 (X.b : Nat), .slice (some ⟨G, 0, none⟩) X.r cp, .int .u64 (X.t : Nat)])) (some 32) rfl rfl (by kernel_rfl) (by kernel_rfl) (by kernel_rfl) (fun _ _ _ h => h) (Or.inl ⟨by rfl, fun w' hS => (by have z0 := N0 _ hS; have z1 := N1 _ hS; have z2 := N2 _ hS; go_simp)⟩) k0 ?_
                try simp only [Go.Act.put, List.setIfInBounds_toArray, List.set_cons_zero, List.set_cons_succ]
                refine wpH_take (i := 6) (v := (.slice (some ⟨g, 0, none⟩) m c)) (some 33) rfl rfl (by kernel_rfl) (by kernel_rfl) (by kernel_rfl) (fun _ _ _ h => h) (Or.inl ⟨by rfl, fun w' hS => (by go_simp)⟩) k0 ?_
                try simp only [Go.Act.put, List.setIfInBounds_toArray, List.set_cons_zero, List.set_cons_succ]
                refine wpH_take (i := 7) (v := (.int .i64 (tt : Nat))) (some 34) rfl rfl (by kernel_rfl) (by kernel_rfl) (by kernel_rfl) (fun _ _ _ h => h) (Or.inl ⟨by rfl, fun w' hS => (by go_simp)⟩) k0 ?_
                try simp only [Go.Act.put, List.setIfInBounds_toArray, List.set_cons_zero, List.set_cons_succ]
                refine wpH_take (i := 8) (v := (.pointer (some ⟨g, tt * 2, none⟩))) (some 35) rfl rfl (by kernel_rfl) (by kernel_rfl) (by kernel_rfl) (fun _ _ _ h => h) (Or.inl ⟨by rfl, fun w' hS => (by go_simp)⟩) k0 ?_
                try simp only [Go.Act.put, List.setIfInBounds_toArray, List.set_cons_zero, List.set_cons_succ]
                refine wpH_take (i := 9) (v := (.agg #[.int .u16 y.1, .string y.2])) (some 36) rfl rfl (by kernel_rfl) (by kernel_rfl) (by kernel_rfl) (fun _ _ _ h => h) (Or.inl ⟨by rfl, fun w' hS => (by have z0 := A0 _ hS; have z1 := A1 _ hS; go_simp)⟩) k0 ?_
                try simp only [Go.Act.put, List.setIfInBounds_toArray, List.set_cons_zero, List.set_cons_succ]
                refine wpH_take (i := 11) (v := (.agg #[.int .i64 (X.b : Nat), .slice (some ⟨G, 0, none⟩) X.r cp, .int .u64 (X.t : Nat)])) (some 38) rfl rfl (by kernel_rfl) (by kernel_rfl) (by kernel_rfl) (fun _ _ _ h => h) (Or.inl ⟨by rfl, fun w' hS => (by have z0 := N0 _ hS; have z1 := N1 _ hS; have z2 := N2 _ hS; go_simp)⟩) k0 ?_
                try simp only [Go.Act.put, List.setIfInBounds_toArray, List.set_cons_zero, List.set_cons_succ]
                refine wpH_take (i := 12) (v := (.slice (some ⟨kb, off, none⟩) N c1)) (some 39) rfl rfl (by kernel_rfl) (by kernel_rfl) (by kernel_rfl) (fun _ _ _ h => h) (Or.inl ⟨by rfl, fun w' hS => (by go_simp)⟩) k0 ?_
                try simp only [Go.Act.put, List.setIfInBounds_toArray, List.set_cons_zero, List.set_cons_succ]
                refine wpH_take (i := 13) (v := (.int .i64 (i : Nat))) (some 40) rfl rfl (by kernel_rfl) (by kernel_rfl) (by kernel_rfl) (fun _ _ _ h => h) (Or.inl ⟨by rfl, fun w' hS => (by go_simp)⟩) k0 ?_
                try simp only [Go.Act.put, List.setIfInBounds_toArray, List.set_cons_zero, List.set_cons_succ]
                refine wpH_take (i := 14) (v := (.pointer (some ⟨kb, off + i * 2, none⟩))) (some 41) rfl rfl (by kernel_rfl) (by kernel_rfl) (by kernel_rfl) (fun _ _ _ h => h) (Or.inl ⟨by rfl, fun w' hS => (by go_simp)⟩) k0 ?_
                try simp only [Go.Act.put, List.setIfInBounds_toArray, List.set_cons_zero, List.set_cons_succ]
                refine wpH_take (i := 15) (v := (.agg #[.int .u16 x.1, .string x.2])) (some 42) rfl rfl (by kernel_rfl) (by kernel_rfl) (by kernel_rfl) (fun _ _ _ h => h) (Or.inl ⟨by rfl, fun w' hS => (by have z0 := L0 _ hS; have z1 := L1 _ hS; go_simp)⟩) k0 ?_
                try simp only [Go.Act.put, List.setIfInBounds_toArray, List.set_cons_zero, List.set_cons_succ]
                refine wpH_call (i := 10) (o := { dst := some 37, op := Op.call { callee := Callee.value (Operand.func 19), args := #[Operand.tmp 32, Operand.tmp 36], argTypes := #[29, 50] }, type := 3, pos := _, after := #[{ on := 5, ground := Ground.data }, { on := 9, ground := Ground.data }, { on := 4, ground := Ground.chain }, { on := 4, ground := Ground.guard }], guard := some (4, true) }) (by kernel_rfl) rfl (fun K' hK => ?_)
                rw [if_pos (by rfl)]
                go_simp
                refine (HRY.out _ k0).mono ?_
                rintro e w2 ⟨rfl, t1⟩
                have k1 := k0.trans' t1
                clear t1
                refine hK.out _ _ k1 ?_
                clear hK
                try simp only [Go.Act.put, List.setIfInBounds_toArray, List.set_cons_zero, List.set_cons_succ]
                refine wpH_call (i := 16) (o := { dst := some 43, op := Op.call { callee := Callee.value (Operand.func 19), args := #[Operand.tmp 38, Operand.tmp 42], argTypes := #[29, 50] }, type := 3, pos := _, after := #[{ on := 11, ground := Ground.data }, { on := 15, ground := Ground.data }, { on := 10, ground := Ground.chain }, { on := 4, ground := Ground.guard }], guard := some (4, true) }) (by kernel_rfl) rfl (fun K' hK => ?_)
                rw [if_pos (by rfl)]
                go_simp
                refine (HRX.out _ k1).mono ?_
                rintro e w3 ⟨rfl, t2⟩
                have k2 := k1.trans' t2
                clear t2
                refine hK.out _ _ k2 ?_
                clear hK
                try simp only [Go.Act.put, List.setIfInBounds_toArray, List.set_cons_zero, List.set_cons_succ]
                refine wpH_take (i := 17) (v := (.bool false)) (some 44) rfl rfl (by kernel_rfl) (by kernel_rfl) (by kernel_rfl) (fun _ _ _ h => h) (Or.inl ⟨by rfl, fun w' hS => (by go_simp)⟩) k2 ?_
                try simp only [Go.Act.put, List.setIfInBounds_toArray, List.set_cons_zero, List.set_cons_succ]
                refine wpH_take (i := 18) (v := (.bool false)) (some 45) rfl rfl (by kernel_rfl) (by kernel_rfl) (by kernel_rfl) (fun _ _ _ h => h) (Or.inl ⟨by rfl, fun w' hS => (by go_simp)⟩) k2 ?_
                try simp only [Go.Act.put, List.setIfInBounds_toArray, List.set_cons_zero, List.set_cons_succ]
                refine wpH_take (i := 19) (v := (.agg #[.int .i64 (X.b : Nat), .slice (some ⟨G, 0, none⟩) X.r cp, .int .u64 (X.t : Nat)])) (some 46) rfl rfl (by kernel_rfl) (by kernel_rfl) (by kernel_rfl) (fun _ _ _ h => h) (Or.inl ⟨by rfl, fun w' hS => (by have z0 := N0 _ hS; have z1 := N1 _ hS; have z2 := N2 _ hS; go_simp)⟩) k2 ?_
                try simp only [Go.Act.put, List.setIfInBounds_toArray, List.set_cons_zero, List.set_cons_succ]
                refine wpH_take (i := 20) (v := (.slice (some ⟨g, 0, none⟩) m c)) (some 47) rfl rfl (by kernel_rfl) (by kernel_rfl) (by kernel_rfl) (fun _ _ _ h => h) (Or.inl ⟨by rfl, fun w' hS => (by go_simp)⟩) k2 ?_
                try simp only [Go.Act.put, List.setIfInBounds_toArray, List.set_cons_zero, List.set_cons_succ]
                refine wpH_take (i := 21) (v := (.int .i64 (tt : Nat))) (some 48) rfl rfl (by kernel_rfl) (by kernel_rfl) (by kernel_rfl) (fun _ _ _ h => h) (Or.inl ⟨by rfl, fun w' hS => (by go_simp)⟩) k2 ?_
                try simp only [Go.Act.put, List.setIfInBounds_toArray, List.set_cons_zero, List.set_cons_succ]
                refine wpH_take (i := 22) (v := (.pointer (some ⟨g, tt * 2, none⟩))) (some 49) rfl rfl (by kernel_rfl) (by kernel_rfl) (by kernel_rfl) (fun _ _ _ h => h) (Or.inl ⟨by rfl, fun w' hS => (by go_simp)⟩) k2 ?_
                try simp only [Go.Act.put, List.setIfInBounds_toArray, List.set_cons_zero, List.set_cons_succ]
                refine wpH_take (i := 23) (v := (.agg #[.int .u16 y.1, .string y.2])) (some 50) rfl rfl (by kernel_rfl) (by kernel_rfl) (by kernel_rfl) (fun _ _ _ h => h) (Or.inl ⟨by rfl, fun w' hS => (by have z0 := A0 _ hS; have z1 := A1 _ hS; go_simp)⟩) k2 ?_
                try simp only [Go.Act.put, List.setIfInBounds_toArray, List.set_cons_zero, List.set_cons_succ]
                refine wpH_take (i := 25) (v := (.agg #[.int .i64 (X.b : Nat), .slice (some ⟨G, 0, none⟩) X.r cp, .int .u64 (X.t : Nat)])) (some 52) rfl rfl (by kernel_rfl) (by kernel_rfl) (by kernel_rfl) (fun _ _ _ h => h) (Or.inl ⟨by rfl, fun w' hS => (by have z0 := N0 _ hS; have z1 := N1 _ hS; have z2 := N2 _ hS; go_simp)⟩) k2 ?_
                try simp only [Go.Act.put, List.setIfInBounds_toArray, List.set_cons_zero, List.set_cons_succ]
                refine wpH_take (i := 26) (v := (.slice (some ⟨kb, off, none⟩) N c1)) (some 53) rfl rfl (by kernel_rfl) (by kernel_rfl) (by kernel_rfl) (fun _ _ _ h => h) (Or.inl ⟨by rfl, fun w' hS => (by go_simp)⟩) k2 ?_
                try simp only [Go.Act.put, List.setIfInBounds_toArray, List.set_cons_zero, List.set_cons_succ]
                refine wpH_take (i := 27) (v := (.int .i64 (i : Nat))) (some 54) rfl rfl (by kernel_rfl) (by kernel_rfl) (by kernel_rfl) (fun _ _ _ h => h) (Or.inl ⟨by rfl, fun w' hS => (by go_simp)⟩) k2 ?_
                try simp only [Go.Act.put, List.setIfInBounds_toArray, List.set_cons_zero, List.set_cons_succ]
                refine wpH_take (i := 28) (v := (.pointer (some ⟨kb, off + i * 2, none⟩))) (some 55) rfl rfl (by kernel_rfl) (by kernel_rfl) (by kernel_rfl) (fun _ _ _ h => h) (Or.inl ⟨by rfl, fun w' hS => (by go_simp)⟩) k2 ?_
                try simp only [Go.Act.put, List.setIfInBounds_toArray, List.set_cons_zero, List.set_cons_succ]
                refine wpH_take (i := 29) (v := (.agg #[.int .u16 x.1, .string x.2])) (some 56) rfl rfl (by kernel_rfl) (by kernel_rfl) (by kernel_rfl) (fun _ _ _ h => h) (Or.inl ⟨by rfl, fun w' hS => (by have z0 := L0 _ hS; have z1 := L1 _ hS; go_simp)⟩) k2 ?_
                try simp only [Go.Act.put, List.setIfInBounds_toArray, List.set_cons_zero, List.set_cons_succ]
                refine wpH_call (i := 24) (o := { dst := some 51, op := Op.call { callee := Callee.value (Operand.func 19), args := #[Operand.tmp 46, Operand.tmp 50], argTypes := #[29, 50] }, type := 3, pos := _, after := #[{ on := 19, ground := Ground.data }, { on := 23, ground := Ground.data }, { on := 18, ground := Ground.chain }, { on := 18, ground := Ground.guard }], guard := some (18, false) }) (by kernel_rfl) rfl (fun K' hK => ?_)
                rw [if_pos (by rfl)]
                go_simp
                refine (HRY.out _ k2).mono ?_
                rintro e w4 ⟨rfl, t3⟩
                have k3 := k2.trans' t3
                clear t3
                refine hK.out _ _ k3 ?_
                clear hK
                try simp only [Go.Act.put, List.setIfInBounds_toArray, List.set_cons_zero, List.set_cons_succ]
                refine wpH_call (i := 30) (o := { dst := some 57, op := Op.call { callee := Callee.value (Operand.func 19), args := #[Operand.tmp 52, Operand.tmp 56], argTypes := #[29, 50] }, type := 3, pos := _, after := #[{ on := 25, ground := Ground.data }, { on := 29, ground := Ground.data }, { on := 24, ground := Ground.chain }, { on := 18, ground := Ground.guard }], guard := some (18, false) }) (by kernel_rfl) rfl (fun K' hK => ?_)
                rw [if_pos (by rfl)]
                go_simp
                refine (HRX.out _ k3).mono ?_
                rintro e w5 ⟨rfl, t4⟩
                have k4 := k3.trans' t4
                clear t4
                refine hK.out _ _ k4 ?_
                clear hK
                try simp only [Go.Act.put, List.setIfInBounds_toArray, List.set_cons_zero, List.set_cons_succ]
                refine wpH_take (i := 31) (v := (.bool false)) (some 58) rfl rfl (by kernel_rfl) (by kernel_rfl) (by kernel_rfl) (fun _ _ _ h => h) (Or.inl ⟨by rfl, fun w' hS => (by go_simp)⟩) k4 ?_
                try simp only [Go.Act.put, List.setIfInBounds_toArray, List.set_cons_zero, List.set_cons_succ]
                refine wpH_take (i := 32) (v := (.bool false)) (some 59) rfl rfl (by kernel_rfl) (by kernel_rfl) (by kernel_rfl) (fun _ _ _ h => h) (Or.inl ⟨by rfl, fun w' hS => (by go_simp)⟩) k4 ?_
                try simp only [Go.Act.put, List.setIfInBounds_toArray, List.set_cons_zero, List.set_cons_succ]
                refine wpH_take (i := 33) (v := undef) (some 60) rfl rfl (by kernel_rfl) (by kernel_rfl) (by kernel_rfl) (fun _ _ _ h => h) (Or.inr ⟨by rfl, rfl⟩) k4 ?_
                try simp only [Go.Act.put, List.setIfInBounds_toArray, List.set_cons_zero, List.set_cons_succ]
                refine wpH_take (i := 34) (v := undef) (some 61) rfl rfl (by kernel_rfl) (by kernel_rfl) (by kernel_rfl) (fun _ _ _ h => h) (Or.inr ⟨by rfl, rfl⟩) k4 ?_
                try simp only [Go.Act.put, List.setIfInBounds_toArray, List.set_cons_zero, List.set_cons_succ]
                refine wpH_take (i := 35) (v := undef) (some 62) rfl rfl (by kernel_rfl) (by kernel_rfl) (by kernel_rfl) (fun _ _ _ h => h) (Or.inr ⟨by rfl, rfl⟩) k4 ?_
                try simp only [Go.Act.put, List.setIfInBounds_toArray, List.set_cons_zero, List.set_cons_succ]
                refine wpH_take (i := 36) (v := undef) (some 63) rfl rfl (by kernel_rfl) (by kernel_rfl) (by kernel_rfl) (fun _ _ _ h => h) (Or.inr ⟨by rfl, rfl⟩) k4 ?_
                try simp only [Go.Act.put, List.setIfInBounds_toArray, List.set_cons_zero, List.set_cons_succ]
                refine wpH_take (i := 37) (v := undef) (some 64) rfl rfl (by kernel_rfl) (by kernel_rfl) (by kernel_rfl) (fun _ _ _ h => h) (Or.inr ⟨by rfl, rfl⟩) k4 ?_
                try simp only [Go.Act.put, List.setIfInBounds_toArray, List.set_cons_zero, List.set_cons_succ]
                refine wpH_take (i := 38) (v := undef) (some 65) rfl rfl (by kernel_rfl) (by kernel_rfl) (by kernel_rfl) (fun _ _ _ h => h) (Or.inr ⟨by rfl, rfl⟩) k4 ?_
                try simp only [Go.Act.put, List.setIfInBounds_toArray, List.set_cons_zero, List.set_cons_succ]
                refine wpH_take (i := 39) (v := undef) (some 66) rfl rfl (by kernel_rfl) (by kernel_rfl) (by kernel_rfl) (fun _ _ _ h => h) (Or.inr ⟨by rfl, rfl⟩) k4 ?_
                try simp only [Go.Act.put, List.setIfInBounds_toArray, List.set_cons_zero, List.set_cons_succ]
                refine wpH_take (i := 40) (v := undef) (some 67) rfl rfl (by kernel_rfl) (by kernel_rfl) (by kernel_rfl) (fun _ _ _ h => h) (Or.inr ⟨by rfl, rfl⟩) k4 ?_
                try simp only [Go.Act.put, List.setIfInBounds_toArray, List.set_cons_zero, List.set_cons_succ]
                refine wpH_take (i := 41) (v := undef) (some 68) rfl rfl (by kernel_rfl) (by kernel_rfl) (by kernel_rfl) (fun _ _ _ h => h) (Or.inr ⟨by rfl, rfl⟩) k4 ?_
                try simp only [Go.Act.put, List.setIfInBounds_toArray, List.set_cons_zero, List.set_cons_succ]
                refine wpH_take (i := 42) (v := undef) (some 69) rfl rfl (by kernel_rfl) (by kernel_rfl) (by kernel_rfl) (fun _ _ _ h => h) (Or.inr ⟨by rfl, rfl⟩) k4 ?_
                try simp only [Go.Act.put, List.setIfInBounds_toArray, List.set_cons_zero, List.set_cons_succ]
                refine wpH_take (i := 43) (v := (.bool false)) (some 70) rfl rfl (by kernel_rfl) (by kernel_rfl) (by kernel_rfl) (fun _ _ _ h => h) (Or.inl ⟨by rfl, fun w' hS => (by go_simp)⟩) k4 ?_
                try simp only [Go.Act.put, List.setIfInBounds_toArray, List.set_cons_zero, List.set_cons_succ]
                refine wpH_take (i := 44) (v := (.bool false)) (some 71) rfl rfl (by kernel_rfl) (by kernel_rfl) (by kernel_rfl) (fun _ _ _ h => h) (Or.inl ⟨by rfl, fun w' hS => (by go_simp)⟩) k4 ?_
                try simp only [Go.Act.put, List.setIfInBounds_toArray, List.set_cons_zero, List.set_cons_succ]
                refine wpH_take (i := 45) (v := (.bool false)) (some 72) rfl rfl (by kernel_rfl) (by kernel_rfl) (by kernel_rfl) (fun _ _ _ h => h) (Or.inl ⟨by rfl, fun w' hS => (by go_simp)⟩) k4 ?_
                try simp only [Go.Act.put, List.setIfInBounds_toArray, List.set_cons_zero, List.set_cons_succ]
                refine wpAnyH_done (by kernel_rfl) ?_ _
                go_wp2
                have HNEW : Hid (∀ wF bF gF cF, bF = w5.heap.size → Touch [] w5 wF → wF.ownsRow bF 50 2 (.slice (some ⟨gF, 0, none⟩) (m + 1) cF) (m + 1) (Un.cellsK (O.take tt ++ [x] ++ O.drop tt)) → m + 1 = (O.take tt ++ [x] ++ O.drop tt).length ∧ Touch [] w1 wF ∧ (O.take tt ++ [x] ++ O.drop tt).Perm (mayL (U.take (i + 1))) ∧ (O.take tt ++ [x] ++ O.drop tt).Pairwise (leX X) ∧ (∀ z ∈ O.take tt ++ [x] ++ O.drop tt, Ok z) ∧ wF.ownsRow w.heap.size 50 2 (.slice (some ⟨gF, 0, none⟩) (m + 1) cF) (m + 1) (Un.cellsK (O.take tt ++ [x] ++ O.drop tt))) := hid (fun wF bF gF cF eb tF oF => by
                  have TT := k4.trans' tF
                  refine ⟨?_, HW1.out.trans' TT, by rw [HMY.out]; exact insX_perm x tt HI.out.2.2.1, HE.out, fun z hz => ?_, own_base oF (by rw [eb]; exact (HTV.out.trans' (HT1.out.trans' (HW1.out.trans' k4))).size)⟩
                  · simp only [List.length_append, List.length_take, List.length_drop, List.length_singleton]
                    have := HI.out.1
                    omega
                  · rw [List.append_assoc, List.mem_append, List.mem_append, List.mem_singleton] at hz
                    rcases hz with hz | rfl | hz
                    · exact HI.out.2.2.2.2.1 z (List.mem_of_mem_take hz)
                    · exact hok
                    · exact HI.out.2.2.2.2.1 z (List.mem_of_mem_drop hz))
                have C0 : ∀ w2, Touch [] w5 w2 → w2.cell? ⟨kb, off + i * 2, none⟩ = some (.int .u16 x.1) := fun w2 t => L0 w2 (k4.trans' t)
                have C1 : ∀ w2, Touch [] w5 w2 → w2.cell? ⟨kb, off + i * 2 + 1, none⟩ = some (.string x.2) := fun w2 t => L1 w2 (k4.trans' t)
                have HP1 : Hid (∀ w2, Touch [] w5 w2 → Rs 50 2 w2 (.slice (some ⟨g, 0, none⟩) tt c) tt (Un.cellsK (O.take tt))) := hid (fun w2 t => by
                  have := rs_part (i := 0) (m := tt) (own_touch HI.out.2.2.2.2.2 (k4.trans' t) (fun _ _ e => by cases e)) HI.out.1 (by omega)
                  simpa using this)
                have hmc : m ≤ c ∧ c ≤ 9223372036854775807 := by
                  rcases own_addr HI.out.2.2.2.2.2 with ⟨q, _⟩ | ⟨_, _, _, q1, q2⟩
                  · cases q
                  · unfold maxLen at q2; exact ⟨q1, by omega⟩
                obtain ⟨hmc, hcc⟩ := hmc
                obtain ⟨of2, hof⟩ : ∃ of2, of2 = if c = tt then 0 else tt * 2 := ⟨_, rfl⟩
                have HO1 : Hid (c = tt → of2 = 0) := hid (fun h => by rw [hof, if_pos h])
                have HO2 : Hid (¬ c = tt → of2 = tt * 2) := hid (fun h => by rw [hof, if_neg h])
                clear hof
                have HP2 : Hid (∀ w2, Touch [] w5 w2 → Rs 50 2 w2 (.slice (some ⟨g, of2, none⟩) (m - tt) (c - tt)) (m - tt) (Un.cellsK (O.drop tt))) := hid (fun w2 t => by
                  by_cases hq : c = tt
                  · exact ⟨by rw [Un.cellsK_len, List.length_drop]; have := HI.out.1; omega, _, _, rfl, by omega, (fun q => by cases q), fun h0 => by omega⟩
                  · have := rs_part (i := tt) (m := m - tt) (own_touch HI.out.2.2.2.2.2 (k4.trans' t) (fun _ _ e => by cases e)) HI.out.1 (by omega)
                    rw [List.take_of_length_le (by rw [List.length_drop]; have := HI.out.1; omega)] at this
                    rw [HO2.out hq]
                    exact this)
                have HE1 : Hid ((O.take tt).length = tt) := hid (by rw [List.length_take]; have := HI.out.1; omega)
                have HE2 : Hid ((O.take tt ++ [x]).length = tt + 1) := hid (by rw [List.length_append, HE1.out]; rfl)
                have HE3 : Hid ((O.take tt ++ [x] ++ O.drop tt).length = m + 1) := hid (by rw [List.length_append, HE2.out, List.length_drop]; have := HI.out.1; omega)
                have z3 : (tt : Int) ≤ (m : Int) := by omega
                have z4 : (m : Int) ≤ (c : Int) := by omega
                have z5 : (tt : Int) ≤ (c : Int) := by omega
                clear L0 L1 HE HI HJ HMY HW1 hok
                generalize O.take tt = P1 at *
                generalize O.drop tt = P2 at *
                obtain ⟨W4, hW4⟩ : ∃ W4, W4 = w5 := ⟨_, rfl⟩
                rw [← hW4] at HNEW C0 C1 HP1 HP2 ⊢
                clear hW4
                refine wp_region_H (S := fun w' => Touch [] W4 w') (by kernel_rfl) ?_
                obtain ⟨D0, hD0⟩ : ∃ D0, D0 = W4.drew := ⟨_, rfl⟩
                rw [← hD0]
                have q0 : SiS W4 D0 x none none := ⟨by rw [hD0]; exact (Touch.refl _ _).drew, fun _ _ e => (by cases e), fun _ e => (by cases e), fun _ _ _ _ e => (by cases e)⟩
                have k0 := q0.t
                clear hD0
                refine wpH_take (i := 1) (v := (.slice (some ⟨g, 0, none⟩) m c)) (some 76) rfl rfl (by kernel_rfl) (by kernel_rfl) (by kernel_rfl) (fun _ _ _ h => h) (Or.inl ⟨by rfl, fun w' hS => (by go_simp)⟩) k0 ?_
                try simp only [Go.Act.put, List.setIfInBounds_toArray, List.set_cons_zero, List.set_cons_succ]
                refine wpH_take (i := 2) (v := (.int .i64 (tt : Nat))) (some 77) rfl rfl (by kernel_rfl) (by kernel_rfl) (by kernel_rfl) (fun _ _ _ h => h) (Or.inl ⟨by rfl, fun w' hS => (by go_simp)⟩) k0 ?_
                try simp only [Go.Act.put, List.setIfInBounds_toArray, List.set_cons_zero, List.set_cons_succ]
                refine wpH_take (i := 3) (v := (.slice (some ⟨g, 0, none⟩) tt c)) (some 78) rfl rfl (by kernel_rfl) (by kernel_rfl) (by kernel_rfl) (fun _ _ _ h => h) (Or.inl ⟨by rfl, fun w' hS => (by go_simp)⟩) k0 ?_
                try simp only [Go.Act.put, List.setIfInBounds_toArray, List.set_cons_zero, List.set_cons_succ]
                refine wpH_take (i := 5) (v := (.slice (some ⟨kb, off, none⟩) N c1)) (some 80) rfl rfl (by kernel_rfl) (by kernel_rfl) (by kernel_rfl) (fun _ _ _ h => h) (Or.inl ⟨by rfl, fun w' hS => (by go_simp)⟩) k0 ?_
                try simp only [Go.Act.put, List.setIfInBounds_toArray, List.set_cons_zero, List.set_cons_succ]
                refine wpH_take (i := 6) (v := (.int .i64 (i : Nat))) (some 81) rfl rfl (by kernel_rfl) (by kernel_rfl) (by kernel_rfl) (fun _ _ _ h => h) (Or.inl ⟨by rfl, fun w' hS => (by go_simp)⟩) k0 ?_
                try simp only [Go.Act.put, List.setIfInBounds_toArray, List.set_cons_zero, List.set_cons_succ]
                refine wpH_take (i := 7) (v := (.pointer (some ⟨kb, off + i * 2, none⟩))) (some 82) rfl rfl (by kernel_rfl) (by kernel_rfl) (by kernel_rfl) (fun _ _ _ h => h) (Or.inl ⟨by rfl, fun w' hS => (by go_simp)⟩) k0 ?_
                try simp only [Go.Act.put, List.setIfInBounds_toArray, List.set_cons_zero, List.set_cons_succ]
                refine wpH_take (i := 8) (v := (.agg #[.int .u16 x.1, .string x.2])) (some 83) rfl rfl (by kernel_rfl) (by kernel_rfl) (by kernel_rfl) (fun _ _ _ h => h) (Or.inl ⟨by rfl, fun w' hS => (by have z0 := C0 _ hS; have z1 := C1 _ hS; go_simp)⟩) k0 ?_
                try simp only [Go.Act.put, List.setIfInBounds_toArray, List.set_cons_zero, List.set_cons_succ]
                refine wpH_take (i := 11) (v := (.slice (some ⟨g, 0, none⟩) m c)) (some 86) rfl rfl (by kernel_rfl) (by kernel_rfl) (by kernel_rfl) (fun _ _ _ h => h) (Or.inl ⟨by rfl, fun w' hS => (by go_simp)⟩) k0 ?_
                try simp only [Go.Act.put, List.setIfInBounds_toArray, List.set_cons_zero, List.set_cons_succ]
                refine wpH_take (i := 12) (v := (.int .i64 (tt : Nat))) (some 87) rfl rfl (by kernel_rfl) (by kernel_rfl) (by kernel_rfl) (fun _ _ _ h => h) (Or.inl ⟨by rfl, fun w' hS => (by go_simp)⟩) k0 ?_
                try simp only [Go.Act.put, List.setIfInBounds_toArray, List.set_cons_zero, List.set_cons_succ]
                refine wpH_take (i := 13) (v := (.slice (some ⟨g, of2, none⟩) (m - tt) (c - tt))) (some 88) rfl rfl (by kernel_rfl) (by kernel_rfl) (by kernel_rfl) (fun _ _ _ h => h) (Or.inl ⟨by rfl, fun w' hS => (by go_simp; by_cases hq : c = tt <;> first | (have := HO1.out hq; simp_all; done) | (have := HO2.out hq; simp_all; done))⟩) k0 ?_
                try simp only [Go.Act.put, List.setIfInBounds_toArray, List.set_cons_zero, List.set_cons_succ]
                refine wpH_ready (rs := [0, 9]) (by kernel_rfl) (by simp) ?_
                refine AllH.cons (o := { dst := some 75, op := Op.buildSlice 55 0 #[], type := 55, pos := _, after := #[], guard := none }) rfl (fun K' hK => ?_) ?_
                · rw [if_pos (by rfl)]
                  go_simp
                  refine hK.out _ _ (k0.alloc _) ?_
                  clear hK
                  try simp only [Go.Act.put, List.setIfInBounds_toArray, List.set_cons_zero, List.set_cons_succ]
                  have q1 := q0.new0
                  obtain ⟨E1, hE1⟩ : ∃ E, E = D0.alloc (.cells #[] 50) := ⟨_, rfl⟩
                  rw [← hE1] at q1 ⊢
                  clear hE1
                  have k1 := q1.t
                  refine wpH_ready (rs := [4, 9]) (by kernel_rfl) (by simp) ?_
                  refine AllH.cons (o := { dst := some 79, op := Op.call { callee := Callee.builtin Builtin.append, args := #[Operand.tmp 75, Operand.tmp 78], argTypes := #[55, 55] }, type := 55, pos := _, after := #[{ on := 0, ground := Ground.data }, { on := 3, ground := Ground.data }], guard := none }) rfl (fun K' hK => ?_) ?_
                  · rw [if_pos (by rfl)]
                    refine wp_append_rs _ _ 55 50 rfl _ 2 24 Un.info31 Try.underlying55 rfl (by decide) W4.heap.size (.slice (some ⟨D0.heap.size, 0, none⟩) 0 0) 0 [] rfl (q1.row _ _ rfl) (.slice (some ⟨g, 0, none⟩) tt c) tt (Un.cellsK P1) rfl (HP1.out _ k1) (cellsK_one' P1) (by have := HE1.out; have := HE2.out; unfold maxLen; omega) (by have := HE1.out; have := HE2.out; omega) k1.size ?_
                    intro v2 w2 o2 g2 p2
                    rw [Nat.zero_add, List.nil_append] at o2
                    obtain ⟨a2, c2, e2⟩ := own_form o2
                    subst e2
                    have q2 := q1.app (A5 := P1) (by rw [HE1.out]; exact o2) g2 p2
                    have k2 := q2.t
                    clear o2 g2 p2
                    refine hK.out _ _ k2 ?_
                    clear hK
                    try simp only [Go.Act.put, List.setIfInBounds_toArray, List.set_cons_zero, List.set_cons_succ]
                    refine wpH_call (i := 9) (o := { dst := some 84, op := Op.buildSlice 55 1 #[(0, Operand.tmp 83)], type := 55, pos := _, after := #[{ on := 8, ground := Ground.data }], guard := none }) (by kernel_rfl) rfl (fun K' hK => ?_)
                    rw [if_pos (by rfl)]
                    go_simp
                    refine hK.out _ _ (k2.alloc _) ?_
                    clear hK
                    try simp only [Go.Act.put, List.setIfInBounds_toArray, List.set_cons_zero, List.set_cons_succ]
                    have q3 := q2.newx
                    obtain ⟨E3, hE3⟩ : ∃ E, E = w2.alloc (.cells #[.int .u16 x.1, .string x.2] 50) := ⟨_, rfl⟩
                    rw [← hE3] at q3 ⊢
                    clear hE3
                    have k3 := q3.t
                    refine wpH_call (i := 10) (o := { dst := some 85, op := Op.call { callee := Callee.builtin Builtin.append, args := #[Operand.tmp 79, Operand.tmp 84], argTypes := #[55, 55] }, type := 55, pos := _, after := #[{ on := 4, ground := Ground.data }, { on := 9, ground := Ground.data }, { on := 4, ground := Ground.chain }], guard := none }) (by kernel_rfl) rfl (fun K' hK => ?_)
                    rw [if_pos (by rfl)]
                    refine wp_append_rs _ _ 55 50 rfl _ 2 24 Un.info31 Try.underlying55 rfl (by decide) W4.heap.size (.slice a2 tt c2) P1.length (Un.cellsK P1) rfl (q3.row _ _ rfl) (.slice (some ⟨w2.heap.size, 0, none⟩) 1 1) 1 [.int .u16 x.1, .string x.2] rfl (q3.one _ rfl).1 (by simp [Value.oneCell']) (by have := HE1.out; have := HE2.out; unfold maxLen; omega) (by have := HE1.out; have := HE2.out; omega) k3.size ?_
                    intro v4 w4 o4 g4 p4
                    rw [HE1.out] at o4
                    obtain ⟨a4, c4, e4⟩ := own_form o4
                    subst e4
                    have q4 := q3.app (A5 := P1 ++ [x]) (by rw [HE2.out, Un.cellsK_app]; exact o4) g4 p4
                    have k4 := q4.t
                    clear o4 g4 p4
                    refine hK.out _ _ k4 ?_
                    clear hK
                    try simp only [Go.Act.put, List.setIfInBounds_toArray, List.set_cons_zero, List.set_cons_succ]
                    refine wpH_call (i := 14) (o := { dst := some 89, op := Op.call { callee := Callee.builtin Builtin.append, args := #[Operand.tmp 85, Operand.tmp 88], argTypes := #[55, 55] }, type := 55, pos := _, after := #[{ on := 10, ground := Ground.data }, { on := 13, ground := Ground.data }, { on := 10, ground := Ground.chain }], guard := none }) (by kernel_rfl) rfl (fun K' hK => ?_)
                    rw [if_pos (by rfl)]
                    refine wp_append_rs _ _ 55 50 rfl _ 2 24 Un.info31 Try.underlying55 rfl (by decide) W4.heap.size (.slice a4 (tt + 1) c4) (P1 ++ [x]).length (Un.cellsK (P1 ++ [x])) rfl (q4.row _ _ rfl) (.slice (some ⟨g, of2, none⟩) (m - tt) (c - tt)) (m - tt) (Un.cellsK P2) rfl (HP2.out _ k4) (cellsK_one' P2) (by have := HE1.out; have := HE2.out; unfold maxLen; omega) (by have := HE1.out; have := HE2.out; omega) k4.size ?_
                    intro v5 w5 o5 g5 p5
                    rw [HE2.out, ← Un.cellsK_app, show tt + 1 + (m - tt) = m + 1 by omega] at o5
                    obtain ⟨a5, c5, e5, -, -⟩ := own_some o5 (by omega)
                    subst e5
                    have q5 := q4.app (A5 := P1 ++ [x] ++ P2) (by rw [HE3.out]; exact o5) g5 p5
                    have k5 := q5.t
                    have HF := hid (HNEW.out _ _ _ _ rfl k5 o5)
                    clear o5 g5 p5
                    refine hK.out _ _ k5 ?_
                    clear hK
                    try simp only [Go.Act.put, List.setIfInBounds_toArray, List.set_cons_zero, List.set_cons_succ]
                    refine wpH_take (i := 15) (v := (.slice (some ⟨a5, 0, none⟩) (m + 1) c5)) (some 7) rfl rfl (by kernel_rfl) (by kernel_rfl) (by kernel_rfl) (fun _ _ _ h => h) (Or.inl ⟨by rfl, fun w' hS => (by go_simp)⟩) k5 ?_
                    try simp only [Go.Act.put, List.setIfInBounds_toArray, List.set_cons_zero, List.set_cons_succ]
                    refine wpAnyH_done (by kernel_rfl) ?_ _
                    clear C0 C1 HP1 HP2 HNEW HO1 HO2
                    go_wp2
                    exact ⟨⟨i + 1, a5, c5, m + 1, _, by omega, by omega, rfl, rfl, HF⟩, by simp [intOf]; omega⟩
                  refine AllH.cons (o := { dst := some 84, op := Op.buildSlice 55 1 #[(0, Operand.tmp 83)], type := 55, pos := _, after := #[{ on := 8, ground := Ground.data }], guard := none }) rfl (fun K' hK => ?_) ?_
                  · rw [if_pos (by rfl)]
                    go_simp
                    refine hK.out _ _ (k1.alloc _) ?_
                    clear hK
                    try simp only [Go.Act.put, List.setIfInBounds_toArray, List.set_cons_zero, List.set_cons_succ]
                    have q6 := q1.newx
                    obtain ⟨E6, hE6⟩ : ∃ E, E = E1.alloc (.cells #[.int .u16 x.1, .string x.2] 50) := ⟨_, rfl⟩
                    rw [← hE6] at q6 ⊢
                    clear hE6
                    have k6 := q6.t
                    refine wpH_call (i := 4) (o := { dst := some 79, op := Op.call { callee := Callee.builtin Builtin.append, args := #[Operand.tmp 75, Operand.tmp 78], argTypes := #[55, 55] }, type := 55, pos := _, after := #[{ on := 0, ground := Ground.data }, { on := 3, ground := Ground.data }], guard := none }) (by kernel_rfl) rfl (fun K' hK => ?_)
                    rw [if_pos (by rfl)]
                    refine wp_append_rs _ _ 55 50 rfl _ 2 24 Un.info31 Try.underlying55 rfl (by decide) W4.heap.size (.slice (some ⟨D0.heap.size, 0, none⟩) 0 0) 0 [] rfl (q6.row _ _ rfl) (.slice (some ⟨g, 0, none⟩) tt c) tt (Un.cellsK P1) rfl (HP1.out _ k6) (cellsK_one' P1) (by have := HE1.out; have := HE2.out; unfold maxLen; omega) (by have := HE1.out; have := HE2.out; omega) k6.size ?_
                    intro v7 w7 o7 g7 p7
                    rw [Nat.zero_add, List.nil_append] at o7
                    obtain ⟨a7, c7, e7⟩ := own_form o7
                    subst e7
                    have q7 := q6.app (A5 := P1) (by rw [HE1.out]; exact o7) g7 p7
                    have k7 := q7.t
                    clear o7 g7 p7
                    refine hK.out _ _ k7 ?_
                    clear hK
                    try simp only [Go.Act.put, List.setIfInBounds_toArray, List.set_cons_zero, List.set_cons_succ]
                    refine wpH_call (i := 10) (o := { dst := some 85, op := Op.call { callee := Callee.builtin Builtin.append, args := #[Operand.tmp 79, Operand.tmp 84], argTypes := #[55, 55] }, type := 55, pos := _, after := #[{ on := 4, ground := Ground.data }, { on := 9, ground := Ground.data }, { on := 4, ground := Ground.chain }], guard := none }) (by kernel_rfl) rfl (fun K' hK => ?_)
                    rw [if_pos (by rfl)]
                    refine wp_append_rs _ _ 55 50 rfl _ 2 24 Un.info31 Try.underlying55 rfl (by decide) W4.heap.size (.slice a7 tt c7) P1.length (Un.cellsK P1) rfl (q7.row _ _ rfl) (.slice (some ⟨E1.heap.size, 0, none⟩) 1 1) 1 [.int .u16 x.1, .string x.2] rfl (q7.one _ rfl).1 (by simp [Value.oneCell']) (by have := HE1.out; have := HE2.out; unfold maxLen; omega) (by have := HE1.out; have := HE2.out; omega) k7.size ?_
                    intro v8 w8 o8 g8 p8
                    rw [HE1.out] at o8
                    obtain ⟨a8, c8, e8⟩ := own_form o8
                    subst e8
                    have q8 := q7.app (A5 := P1 ++ [x]) (by rw [HE2.out, Un.cellsK_app]; exact o8) g8 p8
                    have k8 := q8.t
                    clear o8 g8 p8
                    refine hK.out _ _ k8 ?_
                    clear hK
                    try simp only [Go.Act.put, List.setIfInBounds_toArray, List.set_cons_zero, List.set_cons_succ]
                    refine wpH_call (i := 14) (o := { dst := some 89, op := Op.call { callee := Callee.builtin Builtin.append, args := #[Operand.tmp 85, Operand.tmp 88], argTypes := #[55, 55] }, type := 55, pos := _, after := #[{ on := 10, ground := Ground.data }, { on := 13, ground := Ground.data }, { on := 10, ground := Ground.chain }], guard := none }) (by kernel_rfl) rfl (fun K' hK => ?_)
                    rw [if_pos (by rfl)]
                    refine wp_append_rs _ _ 55 50 rfl _ 2 24 Un.info31 Try.underlying55 rfl (by decide) W4.heap.size (.slice a8 (tt + 1) c8) (P1 ++ [x]).length (Un.cellsK (P1 ++ [x])) rfl (q8.row _ _ rfl) (.slice (some ⟨g, of2, none⟩) (m - tt) (c - tt)) (m - tt) (Un.cellsK P2) rfl (HP2.out _ k8) (cellsK_one' P2) (by have := HE1.out; have := HE2.out; unfold maxLen; omega) (by have := HE1.out; have := HE2.out; omega) k8.size ?_
                    intro v9 w9 o9 g9 p9
                    rw [HE2.out, ← Un.cellsK_app, show tt + 1 + (m - tt) = m + 1 by omega] at o9
                    obtain ⟨a9, c9, e9, -, -⟩ := own_some o9 (by omega)
                    subst e9
                    have q9 := q8.app (A5 := P1 ++ [x] ++ P2) (by rw [HE3.out]; exact o9) g9 p9
                    have k9 := q9.t
                    have HF := hid (HNEW.out _ _ _ _ rfl k9 o9)
                    clear o9 g9 p9
                    refine hK.out _ _ k9 ?_
                    clear hK
                    try simp only [Go.Act.put, List.setIfInBounds_toArray, List.set_cons_zero, List.set_cons_succ]
                    refine wpH_take (i := 15) (v := (.slice (some ⟨a9, 0, none⟩) (m + 1) c9)) (some 7) rfl rfl (by kernel_rfl) (by kernel_rfl) (by kernel_rfl) (fun _ _ _ h => h) (Or.inl ⟨by rfl, fun w' hS => (by go_simp)⟩) k9 ?_
                    try simp only [Go.Act.put, List.setIfInBounds_toArray, List.set_cons_zero, List.set_cons_succ]
                    refine wpAnyH_done (by kernel_rfl) ?_ _
                    clear C0 C1 HP1 HP2 HNEW HO1 HO2
                    go_wp2
                    exact ⟨⟨i + 1, a9, c9, m + 1, _, by omega, by omega, rfl, rfl, HF⟩, by simp [intOf]; omega⟩
                  exact AllH.nil
                refine AllH.cons (o := { dst := some 84, op := Op.buildSlice 55 1 #[(0, Operand.tmp 83)], type := 55, pos := _, after := #[{ on := 8, ground := Ground.data }], guard := none }) rfl (fun K' hK => ?_) ?_
                · rw [if_pos (by rfl)]
                  go_simp
                  refine hK.out _ _ (k0.alloc _) ?_
                  clear hK
                  try simp only [Go.Act.put, List.setIfInBounds_toArray, List.set_cons_zero, List.set_cons_succ]
                  have q10 := q0.newx
                  obtain ⟨E10, hE10⟩ : ∃ E, E = D0.alloc (.cells #[.int .u16 x.1, .string x.2] 50) := ⟨_, rfl⟩
                  rw [← hE10] at q10 ⊢
                  clear hE10
                  have k10 := q10.t
                  refine wpH_call (i := 0) (o := { dst := some 75, op := Op.buildSlice 55 0 #[], type := 55, pos := _, after := #[], guard := none }) (by kernel_rfl) rfl (fun K' hK => ?_)
                  rw [if_pos (by rfl)]
                  go_simp
                  refine hK.out _ _ (k10.alloc _) ?_
                  clear hK
                  try simp only [Go.Act.put, List.setIfInBounds_toArray, List.set_cons_zero, List.set_cons_succ]
                  have q11 := q10.new0
                  obtain ⟨E11, hE11⟩ : ∃ E, E = E10.alloc (.cells #[] 50) := ⟨_, rfl⟩
                  rw [← hE11] at q11 ⊢
                  clear hE11
                  have k11 := q11.t
                  refine wpH_call (i := 4) (o := { dst := some 79, op := Op.call { callee := Callee.builtin Builtin.append, args := #[Operand.tmp 75, Operand.tmp 78], argTypes := #[55, 55] }, type := 55, pos := _, after := #[{ on := 0, ground := Ground.data }, { on := 3, ground := Ground.data }], guard := none }) (by kernel_rfl) rfl (fun K' hK => ?_)
                  rw [if_pos (by rfl)]
                  refine wp_append_rs _ _ 55 50 rfl _ 2 24 Un.info31 Try.underlying55 rfl (by decide) W4.heap.size (.slice (some ⟨E10.heap.size, 0, none⟩) 0 0) 0 [] rfl (q11.row _ _ rfl) (.slice (some ⟨g, 0, none⟩) tt c) tt (Un.cellsK P1) rfl (HP1.out _ k11) (cellsK_one' P1) (by have := HE1.out; have := HE2.out; unfold maxLen; omega) (by have := HE1.out; have := HE2.out; omega) k11.size ?_
                  intro v12 w12 o12 g12 p12
                  rw [Nat.zero_add, List.nil_append] at o12
                  obtain ⟨a12, c12, e12⟩ := own_form o12
                  subst e12
                  have q12 := q11.app (A5 := P1) (by rw [HE1.out]; exact o12) g12 p12
                  have k12 := q12.t
                  clear o12 g12 p12
                  refine hK.out _ _ k12 ?_
                  clear hK
                  try simp only [Go.Act.put, List.setIfInBounds_toArray, List.set_cons_zero, List.set_cons_succ]
                  refine wpH_call (i := 10) (o := { dst := some 85, op := Op.call { callee := Callee.builtin Builtin.append, args := #[Operand.tmp 79, Operand.tmp 84], argTypes := #[55, 55] }, type := 55, pos := _, after := #[{ on := 4, ground := Ground.data }, { on := 9, ground := Ground.data }, { on := 4, ground := Ground.chain }], guard := none }) (by kernel_rfl) rfl (fun K' hK => ?_)
                  rw [if_pos (by rfl)]
                  refine wp_append_rs _ _ 55 50 rfl _ 2 24 Un.info31 Try.underlying55 rfl (by decide) W4.heap.size (.slice a12 tt c12) P1.length (Un.cellsK P1) rfl (q12.row _ _ rfl) (.slice (some ⟨D0.heap.size, 0, none⟩) 1 1) 1 [.int .u16 x.1, .string x.2] rfl (q12.one _ rfl).1 (by simp [Value.oneCell']) (by have := HE1.out; have := HE2.out; unfold maxLen; omega) (by have := HE1.out; have := HE2.out; omega) k12.size ?_
                  intro v13 w13 o13 g13 p13
                  rw [HE1.out] at o13
                  obtain ⟨a13, c13, e13⟩ := own_form o13
                  subst e13
                  have q13 := q12.app (A5 := P1 ++ [x]) (by rw [HE2.out, Un.cellsK_app]; exact o13) g13 p13
                  have k13 := q13.t
                  clear o13 g13 p13
                  refine hK.out _ _ k13 ?_
                  clear hK
                  try simp only [Go.Act.put, List.setIfInBounds_toArray, List.set_cons_zero, List.set_cons_succ]
                  refine wpH_call (i := 14) (o := { dst := some 89, op := Op.call { callee := Callee.builtin Builtin.append, args := #[Operand.tmp 85, Operand.tmp 88], argTypes := #[55, 55] }, type := 55, pos := _, after := #[{ on := 10, ground := Ground.data }, { on := 13, ground := Ground.data }, { on := 10, ground := Ground.chain }], guard := none }) (by kernel_rfl) rfl (fun K' hK => ?_)
                  rw [if_pos (by rfl)]
                  refine wp_append_rs _ _ 55 50 rfl _ 2 24 Un.info31 Try.underlying55 rfl (by decide) W4.heap.size (.slice a13 (tt + 1) c13) (P1 ++ [x]).length (Un.cellsK (P1 ++ [x])) rfl (q13.row _ _ rfl) (.slice (some ⟨g, of2, none⟩) (m - tt) (c - tt)) (m - tt) (Un.cellsK P2) rfl (HP2.out _ k13) (cellsK_one' P2) (by have := HE1.out; have := HE2.out; unfold maxLen; omega) (by have := HE1.out; have := HE2.out; omega) k13.size ?_
                  intro v14 w14 o14 g14 p14
                  rw [HE2.out, ← Un.cellsK_app, show tt + 1 + (m - tt) = m + 1 by omega] at o14
                  obtain ⟨a14, c14, e14, -, -⟩ := own_some o14 (by omega)
                  subst e14
                  have q14 := q13.app (A5 := P1 ++ [x] ++ P2) (by rw [HE3.out]; exact o14) g14 p14
                  have k14 := q14.t
                  have HF := hid (HNEW.out _ _ _ _ rfl k14 o14)
                  clear o14 g14 p14
                  refine hK.out _ _ k14 ?_
                  clear hK
                  try simp only [Go.Act.put, List.setIfInBounds_toArray, List.set_cons_zero, List.set_cons_succ]
                  refine wpH_take (i := 15) (v := (.slice (some ⟨a14, 0, none⟩) (m + 1) c14)) (some 7) rfl rfl (by kernel_rfl) (by kernel_rfl) (by kernel_rfl) (fun _ _ _ h => h) (Or.inl ⟨by rfl, fun w' hS => (by go_simp)⟩) k14 ?_
                  try simp only [Go.Act.put, List.setIfInBounds_toArray, List.set_cons_zero, List.set_cons_succ]
                  refine wpAnyH_done (by kernel_rfl) ?_ _
                  clear C0 C1 HP1 HP2 HNEW HO1 HO2
                  go_wp2
                  exact ⟨⟨i + 1, a14, c14, m + 1, _, by omega, by omega, rfl, rfl, HF⟩, by simp [intOf]; omega⟩
                exact AllH.nil
          · have zt : ¬ (tt : Int) < (m : Int) := by omega
            have HE : Hid ((O.take tt ++ [x] ++ O.drop tt).Pairwise (leX X)) := hid (insX_sorted HI.out.2.2.2.1 (by have := HI.out.1; omega) HJ.out (fun hj => by have := HI.out.1; omega))
            have L0 := HL0.out
            have L1 := HL1.out
            clear HRO HDX HRX HN0 HN1 HN2 HL0 HL1
            go_wp2
            refine wp_region_H (S := fun w' => Touch [] wo w') (by kernel_rfl) ?_
            obtain ⟨WD, hWD⟩ : ∃ WD, WD = wr.drew := ⟨_, rfl⟩
            have k0 : Touch [] wo WD := by rw [hWD]; exact TQ.drew
            rw [← hWD]
            clear hWD
            refine wpH_take (i := 0) (v := (.int .i64 (tt : Nat))) (some 27) rfl rfl (by kernel_rfl) (by kernel_rfl) (by kernel_rfl) (fun _ _ _ h => h) (Or.inl ⟨by rfl, fun w' hS => (by go_simp)⟩) k0 ?_
            try simp only [Go.Act.put, List.setIfInBounds_toArray, List.set_cons_zero, List.set_cons_succ]
            refine wpH_take (i := 1) (v := (.slice (some ⟨g, 0, none⟩) m c)) (some 28) rfl rfl (by kernel_rfl) (by kernel_rfl) (by kernel_rfl) (fun _ _ _ h => h) (Or.inl ⟨by rfl, fun w' hS => (by go_simp)⟩) k0 ?_
            try simp only [Go.Act.put, List.setIfInBounds_toArray, List.set_cons_zero, List.set_cons_succ]
            refine wpH_take (i := 2) (v := (.int .i64 (m : Nat))) (some 29) rfl rfl (by kernel_rfl) (by kernel_rfl) (by kernel_rfl) (fun _ _ _ h => h) (Or.inl ⟨by rfl, fun w' hS => (by go_simp)⟩) k0 ?_
            try simp only [Go.Act.put, List.setIfInBounds_toArray, List.set_cons_zero, List.set_cons_succ]
            refine wpH_take (i := 3) (v := (.bool false)) (some 30) rfl rfl (by kernel_rfl) (by kernel_rfl) (by kernel_rfl) (fun _ _ _ h => h) (Or.inl ⟨by rfl, fun w' hS => (by go_simp)⟩) k0 ?_
            try simp only [Go.Act.put, List.setIfInBounds_toArray, List.set_cons_zero, List.set_cons_succ]
            refine wpH_take (i := 4) (v := (.bool false)) (some 31) rfl rfl (by kernel_rfl) (by kernel_rfl) (by kernel_rfl) (fun _ _ _ h => h) (Or.inl ⟨by rfl, fun w' hS => (by go_simp)⟩) k0 ?_
            try simp only [Go.Act.put, List.setIfInBounds_toArray, List.set_cons_zero, List.set_cons_succ]
            refine wpH_take (i := 5) (v := undef) (some 32) rfl rfl (by kernel_rfl) (by kernel_rfl) (by kernel_rfl) (fun _ _ _ h => h) (Or.inr ⟨by rfl, rfl⟩) k0 ?_
            try simp only [Go.Act.put, List.setIfInBounds_toArray, List.set_cons_zero, List.set_cons_succ]
            refine wpH_take (i := 6) (v := undef) (some 33) rfl rfl (by kernel_rfl) (by kernel_rfl) (by kernel_rfl) (fun _ _ _ h => h) (Or.inr ⟨by rfl, rfl⟩) k0 ?_
            try simp only [Go.Act.put, List.setIfInBounds_toArray, List.set_cons_zero, List.set_cons_succ]
            refine wpH_take (i := 7) (v := undef) (some 34) rfl rfl (by kernel_rfl) (by kernel_rfl) (by kernel_rfl) (fun _ _ _ h => h) (Or.inr ⟨by rfl, rfl⟩) k0 ?_
            try simp only [Go.Act.put, List.setIfInBounds_toArray, List.set_cons_zero, List.set_cons_succ]
            refine wpH_take (i := 8) (v := undef) (some 35) rfl rfl (by kernel_rfl) (by kernel_rfl) (by kernel_rfl) (fun _ _ _ h => h) (Or.inr ⟨by rfl, rfl⟩) k0 ?_
            try simp only [Go.Act.put, List.setIfInBounds_toArray, List.set_cons_zero, List.set_cons_succ]
            refine wpH_take (i := 9) (v := undef) (some 36) rfl rfl (by kernel_rfl) (by kernel_rfl) (by kernel_rfl) (fun _ _ _ h => h) (Or.inr ⟨by rfl, rfl⟩) k0 ?_
            try simp only [Go.Act.put, List.setIfInBounds_toArray, List.set_cons_zero, List.set_cons_succ]
            refine wpH_take (i := 10) (v := undef) (some 37) rfl rfl (by kernel_rfl) (by kernel_rfl) (by kernel_rfl) (fun _ _ _ h => h) (Or.inr ⟨by rfl, rfl⟩) k0 ?_
            try simp only [Go.Act.put, List.setIfInBounds_toArray, List.set_cons_zero, List.set_cons_succ]
            refine wpH_take (i := 11) (v := undef) (some 38) rfl rfl (by kernel_rfl) (by kernel_rfl) (by kernel_rfl) (fun _ _ _ h => h) (Or.inr ⟨by rfl, rfl⟩) k0 ?_
            try simp only [Go.Act.put, List.setIfInBounds_toArray, List.set_cons_zero, List.set_cons_succ]
            refine wpH_take (i := 12) (v := undef) (some 39) rfl rfl (by kernel_rfl) (by kernel_rfl) (by kernel_rfl) (fun _ _ _ h => h) (Or.inr ⟨by rfl, rfl⟩) k0 ?_
            try simp only [Go.Act.put, List.setIfInBounds_toArray, List.set_cons_zero, List.set_cons_succ]
            refine wpH_take (i := 13) (v := undef) (some 40) rfl rfl (by kernel_rfl) (by kernel_rfl) (by kernel_rfl) (fun _ _ _ h => h) (Or.inr ⟨by rfl, rfl⟩) k0 ?_
            try simp only [Go.Act.put, List.setIfInBounds_toArray, List.set_cons_zero, List.set_cons_succ]
            refine wpH_take (i := 14) (v := undef) (some 41) rfl rfl (by kernel_rfl) (by kernel_rfl) (by kernel_rfl) (fun _ _ _ h => h) (Or.inr ⟨by rfl, rfl⟩) k0 ?_
            try simp only [Go.Act.put, List.setIfInBounds_toArray, List.set_cons_zero, List.set_cons_succ]
            refine wpH_take (i := 15) (v := undef) (some 42) rfl rfl (by kernel_rfl) (by kernel_rfl) (by kernel_rfl) (fun _ _ _ h => h) (Or.inr ⟨by rfl, rfl⟩) k0 ?_
            try simp only [Go.Act.put, List.setIfInBounds_toArray, List.set_cons_zero, List.set_cons_succ]
            refine wpH_take (i := 16) (v := undef) (some 43) rfl rfl (by kernel_rfl) (by kernel_rfl) (by kernel_rfl) (fun _ _ _ h => h) (Or.inr ⟨by rfl, rfl⟩) k0 ?_
            try simp only [Go.Act.put, List.setIfInBounds_toArray, List.set_cons_zero, List.set_cons_succ]
            refine wpH_take (i := 17) (v := undef) (some 44) rfl rfl (by kernel_rfl) (by kernel_rfl) (by kernel_rfl) (fun _ _ _ h => h) (Or.inr ⟨by rfl, rfl⟩) k0 ?_
            try simp only [Go.Act.put, List.setIfInBounds_toArray, List.set_cons_zero, List.set_cons_succ]
            refine wpH_take (i := 18) (v := undef) (some 45) rfl rfl (by kernel_rfl) (by kernel_rfl) (by kernel_rfl) (fun _ _ _ h => h) (Or.inr ⟨by rfl, rfl⟩) k0 ?_
            try simp only [Go.Act.put, List.setIfInBounds_toArray, List.set_cons_zero, List.set_cons_succ]
            refine wpH_take (i := 19) (v := undef) (some 46) rfl rfl (by kernel_rfl) (by kernel_rfl) (by kernel_rfl) (fun _ _ _ h => h) (Or.inr ⟨by rfl, rfl⟩) k0 ?_
            try simp only [Go.Act.put, List.setIfInBounds_toArray, List.set_cons_zero, List.set_cons_succ]
            refine wpH_take (i := 20) (v := undef) (some 47) rfl rfl (by kernel_rfl) (by kernel_rfl) (by kernel_rfl) (fun _ _ _ h => h) (Or.inr ⟨by rfl, rfl⟩) k0 ?_
            try simp only [Go.Act.put, List.setIfInBounds_toArray, List.set_cons_zero, List.set_cons_succ]
            refine wpH_take (i := 21) (v := undef) (some 48) rfl rfl (by kernel_rfl) (by kernel_rfl) (by kernel_rfl) (fun _ _ _ h => h) (Or.inr ⟨by rfl, rfl⟩) k0 ?_
            try simp only [Go.Act.put, List.setIfInBounds_toArray, List.set_cons_zero, List.set_cons_succ]
            refine wpH_take (i := 22) (v := undef) (some 49) rfl rfl (by kernel_rfl) (by kernel_rfl) (by kernel_rfl) (fun _ _ _ h => h) (Or.inr ⟨by rfl, rfl⟩) k0 ?_
            try simp only [Go.Act.put, List.setIfInBounds_toArray, List.set_cons_zero, List.set_cons_succ]
            refine wpH_take (i := 23) (v := undef) (some 50) rfl rfl (by kernel_rfl) (by kernel_rfl) (by kernel_rfl) (fun _ _ _ h => h) (Or.inr ⟨by rfl, rfl⟩) k0 ?_
            try simp only [Go.Act.put, List.setIfInBounds_toArray, List.set_cons_zero, List.set_cons_succ]
            refine wpH_take (i := 24) (v := undef) (some 51) rfl rfl (by kernel_rfl) (by kernel_rfl) (by kernel_rfl) (fun _ _ _ h => h) (Or.inr ⟨by rfl, rfl⟩) k0 ?_
            try simp only [Go.Act.put, List.setIfInBounds_toArray, List.set_cons_zero, List.set_cons_succ]
            refine wpH_take (i := 25) (v := undef) (some 52) rfl rfl (by kernel_rfl) (by kernel_rfl) (by kernel_rfl) (fun _ _ _ h => h) (Or.inr ⟨by rfl, rfl⟩) k0 ?_
            try simp only [Go.Act.put, List.setIfInBounds_toArray, List.set_cons_zero, List.set_cons_succ]
            refine wpH_take (i := 26) (v := undef) (some 53) rfl rfl (by kernel_rfl) (by kernel_rfl) (by kernel_rfl) (fun _ _ _ h => h) (Or.inr ⟨by rfl, rfl⟩) k0 ?_
            try simp only [Go.Act.put, List.setIfInBounds_toArray, List.set_cons_zero, List.set_cons_succ]
            refine wpH_take (i := 27) (v := undef) (some 54) rfl rfl (by kernel_rfl) (by kernel_rfl) (by kernel_rfl) (fun _ _ _ h => h) (Or.inr ⟨by rfl, rfl⟩) k0 ?_
            try simp only [Go.Act.put, List.setIfInBounds_toArray, List.set_cons_zero, List.set_cons_succ]
            refine wpH_take (i := 28) (v := undef) (some 55) rfl rfl (by kernel_rfl) (by kernel_rfl) (by kernel_rfl) (fun _ _ _ h => h) (Or.inr ⟨by rfl, rfl⟩) k0 ?_
            try simp only [Go.Act.put, List.setIfInBounds_toArray, List.set_cons_zero, List.set_cons_succ]
            refine wpH_take (i := 29) (v := undef) (some 56) rfl rfl (by kernel_rfl) (by kernel_rfl) (by kernel_rfl) (fun _ _ _ h => h) (Or.inr ⟨by rfl, rfl⟩) k0 ?_
            try simp only [Go.Act.put, List.setIfInBounds_toArray, List.set_cons_zero, List.set_cons_succ]
            refine wpH_take (i := 30) (v := undef) (some 57) rfl rfl (by kernel_rfl) (by kernel_rfl) (by kernel_rfl) (fun _ _ _ h => h) (Or.inr ⟨by rfl, rfl⟩) k0 ?_
            try simp only [Go.Act.put, List.setIfInBounds_toArray, List.set_cons_zero, List.set_cons_succ]
            refine wpH_take (i := 31) (v := undef) (some 58) rfl rfl (by kernel_rfl) (by kernel_rfl) (by kernel_rfl) (fun _ _ _ h => h) (Or.inr ⟨by rfl, rfl⟩) k0 ?_
            try simp only [Go.Act.put, List.setIfInBounds_toArray, List.set_cons_zero, List.set_cons_succ]
            refine wpH_take (i := 32) (v := undef) (some 59) rfl rfl (by kernel_rfl) (by kernel_rfl) (by kernel_rfl) (fun _ _ _ h => h) (Or.inr ⟨by rfl, rfl⟩) k0 ?_
            try simp only [Go.Act.put, List.setIfInBounds_toArray, List.set_cons_zero, List.set_cons_succ]
            refine wpH_take (i := 33) (v := undef) (some 60) rfl rfl (by kernel_rfl) (by kernel_rfl) (by kernel_rfl) (fun _ _ _ h => h) (Or.inr ⟨by rfl, rfl⟩) k0 ?_
            try simp only [Go.Act.put, List.setIfInBounds_toArray, List.set_cons_zero, List.set_cons_succ]
            refine wpH_take (i := 34) (v := undef) (some 61) rfl rfl (by kernel_rfl) (by kernel_rfl) (by kernel_rfl) (fun _ _ _ h => h) (Or.inr ⟨by rfl, rfl⟩) k0 ?_
            try simp only [Go.Act.put, List.setIfInBounds_toArray, List.set_cons_zero, List.set_cons_succ]
            refine wpH_take (i := 35) (v := undef) (some 62) rfl rfl (by kernel_rfl) (by kernel_rfl) (by kernel_rfl) (fun _ _ _ h => h) (Or.inr ⟨by rfl, rfl⟩) k0 ?_
            try simp only [Go.Act.put, List.setIfInBounds_toArray, List.set_cons_zero, List.set_cons_succ]
            refine wpH_take (i := 36) (v := undef) (some 63) rfl rfl (by kernel_rfl) (by kernel_rfl) (by kernel_rfl) (fun _ _ _ h => h) (Or.inr ⟨by rfl, rfl⟩) k0 ?_
            try simp only [Go.Act.put, List.setIfInBounds_toArray, List.set_cons_zero, List.set_cons_succ]
            refine wpH_take (i := 37) (v := undef) (some 64) rfl rfl (by kernel_rfl) (by kernel_rfl) (by kernel_rfl) (fun _ _ _ h => h) (Or.inr ⟨by rfl, rfl⟩) k0 ?_
            try simp only [Go.Act.put, List.setIfInBounds_toArray, List.set_cons_zero, List.set_cons_succ]
            refine wpH_take (i := 38) (v := undef) (some 65) rfl rfl (by kernel_rfl) (by kernel_rfl) (by kernel_rfl) (fun _ _ _ h => h) (Or.inr ⟨by rfl, rfl⟩) k0 ?_
            try simp only [Go.Act.put, List.setIfInBounds_toArray, List.set_cons_zero, List.set_cons_succ]
            refine wpH_take (i := 39) (v := undef) (some 66) rfl rfl (by kernel_rfl) (by kernel_rfl) (by kernel_rfl) (fun _ _ _ h => h) (Or.inr ⟨by rfl, rfl⟩) k0 ?_
            try simp only [Go.Act.put, List.setIfInBounds_toArray, List.set_cons_zero, List.set_cons_succ]
            refine wpH_take (i := 40) (v := undef) (some 67) rfl rfl (by kernel_rfl) (by kernel_rfl) (by kernel_rfl) (fun _ _ _ h => h) (Or.inr ⟨by rfl, rfl⟩) k0 ?_
            try simp only [Go.Act.put, List.setIfInBounds_toArray, List.set_cons_zero, List.set_cons_succ]
            refine wpH_take (i := 41) (v := undef) (some 68) rfl rfl (by kernel_rfl) (by kernel_rfl) (by kernel_rfl) (fun _ _ _ h => h) (Or.inr ⟨by rfl, rfl⟩) k0 ?_
            try simp only [Go.Act.put, List.setIfInBounds_toArray, List.set_cons_zero, List.set_cons_succ]
            refine wpH_take (i := 42) (v := undef) (some 69) rfl rfl (by kernel_rfl) (by kernel_rfl) (by kernel_rfl) (fun _ _ _ h => h) (Or.inr ⟨by rfl, rfl⟩) k0 ?_
            try simp only [Go.Act.put, List.setIfInBounds_toArray, List.set_cons_zero, List.set_cons_succ]
            refine wpH_take (i := 43) (v := undef) (some 70) rfl rfl (by kernel_rfl) (by kernel_rfl) (by kernel_rfl) (fun _ _ _ h => h) (Or.inr ⟨by rfl, rfl⟩) k0 ?_
            try simp only [Go.Act.put, List.setIfInBounds_toArray, List.set_cons_zero, List.set_cons_succ]
            refine wpH_take (i := 44) (v := undef) (some 71) rfl rfl (by kernel_rfl) (by kernel_rfl) (by kernel_rfl) (fun _ _ _ h => h) (Or.inr ⟨by rfl, rfl⟩) k0 ?_
            try simp only [Go.Act.put, List.setIfInBounds_toArray, List.set_cons_zero, List.set_cons_succ]
            refine wpH_take (i := 45) (v := (.bool false)) (some 72) rfl rfl (by kernel_rfl) (by kernel_rfl) (by kernel_rfl) (fun _ _ _ h => h) (Or.inl ⟨by rfl, fun w' hS => (by go_simp)⟩) k0 ?_
            try simp only [Go.Act.put, List.setIfInBounds_toArray, List.set_cons_zero, List.set_cons_succ]
            refine wpAnyH_done (by kernel_rfl) ?_ _
            go_wp2
            have HNEW : Hid (∀ wF bF gF cF, bF = WD.heap.size → Touch [] WD wF → wF.ownsRow bF 50 2 (.slice (some ⟨gF, 0, none⟩) (m + 1) cF) (m + 1) (Un.cellsK (O.take tt ++ [x] ++ O.drop tt)) → m + 1 = (O.take tt ++ [x] ++ O.drop tt).length ∧ Touch [] w1 wF ∧ (O.take tt ++ [x] ++ O.drop tt).Perm (mayL (U.take (i + 1))) ∧ (O.take tt ++ [x] ++ O.drop tt).Pairwise (leX X) ∧ (∀ z ∈ O.take tt ++ [x] ++ O.drop tt, Ok z) ∧ wF.ownsRow w.heap.size 50 2 (.slice (some ⟨gF, 0, none⟩) (m + 1) cF) (m + 1) (Un.cellsK (O.take tt ++ [x] ++ O.drop tt))) := hid (fun wF bF gF cF eb tF oF => by
              have TT := k0.trans' tF
              refine ⟨?_, HW1.out.trans' TT, by rw [HMY.out]; exact insX_perm x tt HI.out.2.2.1, HE.out, fun z hz => ?_, own_base oF (by rw [eb]; exact (HTV.out.trans' (HT1.out.trans' (HW1.out.trans' k0))).size)⟩
              · simp only [List.length_append, List.length_take, List.length_drop, List.length_singleton]
                have := HI.out.1
                omega
              · rw [List.append_assoc, List.mem_append, List.mem_append, List.mem_singleton] at hz
                rcases hz with hz | rfl | hz
                · exact HI.out.2.2.2.2.1 z (List.mem_of_mem_take hz)
                · exact hok
                · exact HI.out.2.2.2.2.1 z (List.mem_of_mem_drop hz))
            have C0 : ∀ w2, Touch [] WD w2 → w2.cell? ⟨kb, off + i * 2, none⟩ = some (.int .u16 x.1) := fun w2 t => L0 w2 (k0.trans' t)
            have C1 : ∀ w2, Touch [] WD w2 → w2.cell? ⟨kb, off + i * 2 + 1, none⟩ = some (.string x.2) := fun w2 t => L1 w2 (k0.trans' t)
            have HP1 : Hid (∀ w2, Touch [] WD w2 → Rs 50 2 w2 (.slice (some ⟨g, 0, none⟩) tt c) tt (Un.cellsK (O.take tt))) := hid (fun w2 t => by
              have := rs_part (i := 0) (m := tt) (own_touch HI.out.2.2.2.2.2 (k0.trans' t) (fun _ _ e => by cases e)) HI.out.1 (by omega)
              simpa using this)
            have hmc : m ≤ c ∧ c ≤ 9223372036854775807 := by
              rcases own_addr HI.out.2.2.2.2.2 with ⟨q, _⟩ | ⟨_, _, _, q1, q2⟩
              · cases q
              · unfold maxLen at q2; exact ⟨q1, by omega⟩
            obtain ⟨hmc, hcc⟩ := hmc
            obtain ⟨of2, hof⟩ : ∃ of2, of2 = if c = tt then 0 else tt * 2 := ⟨_, rfl⟩
            have HO1 : Hid (c = tt → of2 = 0) := hid (fun h => by rw [hof, if_pos h])
            have HO2 : Hid (¬ c = tt → of2 = tt * 2) := hid (fun h => by rw [hof, if_neg h])
            clear hof
            have HP2 : Hid (∀ w2, Touch [] WD w2 → Rs 50 2 w2 (.slice (some ⟨g, of2, none⟩) (m - tt) (c - tt)) (m - tt) (Un.cellsK (O.drop tt))) := hid (fun w2 t => by
              by_cases hq : c = tt
              · exact ⟨by rw [Un.cellsK_len, List.length_drop]; have := HI.out.1; omega, _, _, rfl, by omega, (fun q => by cases q), fun h0 => by omega⟩
              · have := rs_part (i := tt) (m := m - tt) (own_touch HI.out.2.2.2.2.2 (k0.trans' t) (fun _ _ e => by cases e)) HI.out.1 (by omega)
                rw [List.take_of_length_le (by rw [List.length_drop]; have := HI.out.1; omega)] at this
                rw [HO2.out hq]
                exact this)
            have HE1 : Hid ((O.take tt).length = tt) := hid (by rw [List.length_take]; have := HI.out.1; omega)
            have HE2 : Hid ((O.take tt ++ [x]).length = tt + 1) := hid (by rw [List.length_append, HE1.out]; rfl)
            have HE3 : Hid ((O.take tt ++ [x] ++ O.drop tt).length = m + 1) := hid (by rw [List.length_append, HE2.out, List.length_drop]; have := HI.out.1; omega)
            have z3 : (tt : Int) ≤ (m : Int) := by omega
            have z4 : (m : Int) ≤ (c : Int) := by omega
            have z5 : (tt : Int) ≤ (c : Int) := by omega
            clear L0 L1 HE HI HJ HMY HW1 hok
            generalize O.take tt = P1 at *
            generalize O.drop tt = P2 at *
            obtain ⟨W4, hW4⟩ : ∃ W4, W4 = WD := ⟨_, rfl⟩
            rw [← hW4] at HNEW C0 C1 HP1 HP2 ⊢
            clear hW4
            refine wp_region_H (S := fun w' => Touch [] W4 w') (by kernel_rfl) ?_
            obtain ⟨D0, hD0⟩ : ∃ D0, D0 = W4.drew := ⟨_, rfl⟩
            rw [← hD0]
            have q0 : SiS W4 D0 x none none := ⟨by rw [hD0]; exact (Touch.refl _ _).drew, fun _ _ e => (by cases e), fun _ e => (by cases e), fun _ _ _ _ e => (by cases e)⟩
            have k0 := q0.t
            clear hD0
            refine wpH_take (i := 1) (v := (.slice (some ⟨g, 0, none⟩) m c)) (some 76) rfl rfl (by kernel_rfl) (by kernel_rfl) (by kernel_rfl) (fun _ _ _ h => h) (Or.inl ⟨by rfl, fun w' hS => (by go_simp)⟩) k0 ?_
            try simp only [Go.Act.put, List.setIfInBounds_toArray, List.set_cons_zero, List.set_cons_succ]
            refine wpH_take (i := 2) (v := (.int .i64 (tt : Nat))) (some 77) rfl rfl (by kernel_rfl) (by kernel_rfl) (by kernel_rfl) (fun _ _ _ h => h) (Or.inl ⟨by rfl, fun w' hS => (by go_simp)⟩) k0 ?_
            try simp only [Go.Act.put, List.setIfInBounds_toArray, List.set_cons_zero, List.set_cons_succ]
            refine wpH_take (i := 3) (v := (.slice (some ⟨g, 0, none⟩) tt c)) (some 78) rfl rfl (by kernel_rfl) (by kernel_rfl) (by kernel_rfl) (fun _ _ _ h => h) (Or.inl ⟨by rfl, fun w' hS => (by go_simp)⟩) k0 ?_
            try simp only [Go.Act.put, List.setIfInBounds_toArray, List.set_cons_zero, List.set_cons_succ]
            refine wpH_take (i := 5) (v := (.slice (some ⟨kb, off, none⟩) N c1)) (some 80) rfl rfl (by kernel_rfl) (by kernel_rfl) (by kernel_rfl) (fun _ _ _ h => h) (Or.inl ⟨by rfl, fun w' hS => (by go_simp)⟩) k0 ?_
            try simp only [Go.Act.put, List.setIfInBounds_toArray, List.set_cons_zero, List.set_cons_succ]
            refine wpH_take (i := 6) (v := (.int .i64 (i : Nat))) (some 81) rfl rfl (by kernel_rfl) (by kernel_rfl) (by kernel_rfl) (fun _ _ _ h => h) (Or.inl ⟨by rfl, fun w' hS => (by go_simp)⟩) k0 ?_
            try simp only [Go.Act.put, List.setIfInBounds_toArray, List.set_cons_zero, List.set_cons_succ]
            refine wpH_take (i := 7) (v := (.pointer (some ⟨kb, off + i * 2, none⟩))) (some 82) rfl rfl (by kernel_rfl) (by kernel_rfl) (by kernel_rfl) (fun _ _ _ h => h) (Or.inl ⟨by rfl, fun w' hS => (by go_simp)⟩) k0 ?_
            try simp only [Go.Act.put, List.setIfInBounds_toArray, List.set_cons_zero, List.set_cons_succ]
            refine wpH_take (i := 8) (v := (.agg #[.int .u16 x.1, .string x.2])) (some 83) rfl rfl (by kernel_rfl) (by kernel_rfl) (by kernel_rfl) (fun _ _ _ h => h) (Or.inl ⟨by rfl, fun w' hS => (by have z0 := C0 _ hS; have z1 := C1 _ hS; go_simp)⟩) k0 ?_
            try simp only [Go.Act.put, List.setIfInBounds_toArray, List.set_cons_zero, List.set_cons_succ]
            refine wpH_take (i := 11) (v := (.slice (some ⟨g, 0, none⟩) m c)) (some 86) rfl rfl (by kernel_rfl) (by kernel_rfl) (by kernel_rfl) (fun _ _ _ h => h) (Or.inl ⟨by rfl, fun w' hS => (by go_simp)⟩) k0 ?_
            try simp only [Go.Act.put, List.setIfInBounds_toArray, List.set_cons_zero, List.set_cons_succ]
            refine wpH_take (i := 12) (v := (.int .i64 (tt : Nat))) (some 87) rfl rfl (by kernel_rfl) (by kernel_rfl) (by kernel_rfl) (fun _ _ _ h => h) (Or.inl ⟨by rfl, fun w' hS => (by go_simp)⟩) k0 ?_
            try simp only [Go.Act.put, List.setIfInBounds_toArray, List.set_cons_zero, List.set_cons_succ]
            refine wpH_take (i := 13) (v := (.slice (some ⟨g, of2, none⟩) (m - tt) (c - tt))) (some 88) rfl rfl (by kernel_rfl) (by kernel_rfl) (by kernel_rfl) (fun _ _ _ h => h) (Or.inl ⟨by rfl, fun w' hS => (by go_simp; by_cases hq : c = tt <;> first | (have := HO1.out hq; simp_all; done) | (have := HO2.out hq; simp_all; done))⟩) k0 ?_
            try simp only [Go.Act.put, List.setIfInBounds_toArray, List.set_cons_zero, List.set_cons_succ]
            refine wpH_ready (rs := [0, 9]) (by kernel_rfl) (by simp) ?_
            refine AllH.cons (o := { dst := some 75, op := Op.buildSlice 55 0 #[], type := 55, pos := _, after := #[], guard := none }) rfl (fun K' hK => ?_) ?_
            · rw [if_pos (by rfl)]
              go_simp
              refine hK.out _ _ (k0.alloc _) ?_
              clear hK
              try simp only [Go.Act.put, List.setIfInBounds_toArray, List.set_cons_zero, List.set_cons_succ]
              have q1 := q0.new0
              obtain ⟨E1, hE1⟩ : ∃ E, E = D0.alloc (.cells #[] 50) := ⟨_, rfl⟩
              rw [← hE1] at q1 ⊢
              clear hE1
              have k1 := q1.t
              refine wpH_ready (rs := [4, 9]) (by kernel_rfl) (by simp) ?_
              refine AllH.cons (o := { dst := some 79, op := Op.call { callee := Callee.builtin Builtin.append, args := #[Operand.tmp 75, Operand.tmp 78], argTypes := #[55, 55] }, type := 55, pos := _, after := #[{ on := 0, ground := Ground.data }, { on := 3, ground := Ground.data }], guard := none }) rfl (fun K' hK => ?_) ?_
              · rw [if_pos (by rfl)]
                refine wp_append_rs _ _ 55 50 rfl _ 2 24 Un.info31 Try.underlying55 rfl (by decide) W4.heap.size (.slice (some ⟨D0.heap.size, 0, none⟩) 0 0) 0 [] rfl (q1.row _ _ rfl) (.slice (some ⟨g, 0, none⟩) tt c) tt (Un.cellsK P1) rfl (HP1.out _ k1) (cellsK_one' P1) (by have := HE1.out; have := HE2.out; unfold maxLen; omega) (by have := HE1.out; have := HE2.out; omega) k1.size ?_
                intro v2 w2 o2 g2 p2
                rw [Nat.zero_add, List.nil_append] at o2
                obtain ⟨a2, c2, e2⟩ := own_form o2
                subst e2
                have q2 := q1.app (A5 := P1) (by rw [HE1.out]; exact o2) g2 p2
                have k2 := q2.t
                clear o2 g2 p2
                refine hK.out _ _ k2 ?_
                clear hK
                try simp only [Go.Act.put, List.setIfInBounds_toArray, List.set_cons_zero, List.set_cons_succ]
                refine wpH_call (i := 9) (o := { dst := some 84, op := Op.buildSlice 55 1 #[(0, Operand.tmp 83)], type := 55, pos := _, after := #[{ on := 8, ground := Ground.data }], guard := none }) (by kernel_rfl) rfl (fun K' hK => ?_)
                rw [if_pos (by rfl)]
                go_simp
                refine hK.out _ _ (k2.alloc _) ?_
                clear hK
                try simp only [Go.Act.put, List.setIfInBounds_toArray, List.set_cons_zero, List.set_cons_succ]
                have q3 := q2.newx
                obtain ⟨E3, hE3⟩ : ∃ E, E = w2.alloc (.cells #[.int .u16 x.1, .string x.2] 50) := ⟨_, rfl⟩
                rw [← hE3] at q3 ⊢
                clear hE3
                have k3 := q3.t
                refine wpH_call (i := 10) (o := { dst := some 85, op := Op.call { callee := Callee.builtin Builtin.append, args := #[Operand.tmp 79, Operand.tmp 84], argTypes := #[55, 55] }, type := 55, pos := _, after := #[{ on := 4, ground := Ground.data }, { on := 9, ground := Ground.data }, { on := 4, ground := Ground.chain }], guard := none }) (by kernel_rfl) rfl (fun K' hK => ?_)
                rw [if_pos (by rfl)]
                refine wp_append_rs _ _ 55 50 rfl _ 2 24 Un.info31 Try.underlying55 rfl (by decide) W4.heap.size (.slice a2 tt c2) P1.length (Un.cellsK P1) rfl (q3.row _ _ rfl) (.slice (some ⟨w2.heap.size, 0, none⟩) 1 1) 1 [.int .u16 x.1, .string x.2] rfl (q3.one _ rfl).1 (by simp [Value.oneCell']) (by have := HE1.out; have := HE2.out; unfold maxLen; omega) (by have := HE1.out; have := HE2.out; omega) k3.size ?_
                intro v4 w4 o4 g4 p4
                rw [HE1.out] at o4
                obtain ⟨a4, c4, e4⟩ := own_form o4
                subst e4
                have q4 := q3.app (A5 := P1 ++ [x]) (by rw [HE2.out, Un.cellsK_app]; exact o4) g4 p4
                have k4 := q4.t
                clear o4 g4 p4
                refine hK.out _ _ k4 ?_
                clear hK
                try simp only [Go.Act.put, List.setIfInBounds_toArray, List.set_cons_zero, List.set_cons_succ]
                refine wpH_call (i := 14) (o := { dst := some 89, op := Op.call { callee := Callee.builtin Builtin.append, args := #[Operand.tmp 85, Operand.tmp 88], argTypes := #[55, 55] }, type := 55, pos := _, after := #[{ on := 10, ground := Ground.data }, { on := 13, ground := Ground.data }, { on := 10, ground := Ground.chain }], guard := none }) (by kernel_rfl) rfl (fun K' hK => ?_)
                rw [if_pos (by rfl)]
                refine wp_append_rs _ _ 55 50 rfl _ 2 24 Un.info31 Try.underlying55 rfl (by decide) W4.heap.size (.slice a4 (tt + 1) c4) (P1 ++ [x]).length (Un.cellsK (P1 ++ [x])) rfl (q4.row _ _ rfl) (.slice (some ⟨g, of2, none⟩) (m - tt) (c - tt)) (m - tt) (Un.cellsK P2) rfl (HP2.out _ k4) (cellsK_one' P2) (by have := HE1.out; have := HE2.out; unfold maxLen; omega) (by have := HE1.out; have := HE2.out; omega) k4.size ?_
                intro v5 w5 o5 g5 p5
                rw [HE2.out, ← Un.cellsK_app, show tt + 1 + (m - tt) = m + 1 by omega] at o5
                obtain ⟨a5, c5, e5, -, -⟩ := own_some o5 (by omega)
                subst e5
                have q5 := q4.app (A5 := P1 ++ [x] ++ P2) (by rw [HE3.out]; exact o5) g5 p5
                have k5 := q5.t
                have HF := hid (HNEW.out _ _ _ _ rfl k5 o5)
                clear o5 g5 p5
                refine hK.out _ _ k5 ?_
                clear hK
                try simp only [Go.Act.put, List.setIfInBounds_toArray, List.set_cons_zero, List.set_cons_succ]
                refine wpH_take (i := 15) (v := (.slice (some ⟨a5, 0, none⟩) (m + 1) c5)) (some 7) rfl rfl (by kernel_rfl) (by kernel_rfl) (by kernel_rfl) (fun _ _ _ h => h) (Or.inl ⟨by rfl, fun w' hS => (by go_simp)⟩) k5 ?_
                try simp only [Go.Act.put, List.setIfInBounds_toArray, List.set_cons_zero, List.set_cons_succ]
                refine wpAnyH_done (by kernel_rfl) ?_ _
                clear C0 C1 HP1 HP2 HNEW HO1 HO2
                go_wp2
                exact ⟨⟨i + 1, a5, c5, m + 1, _, by omega, by omega, rfl, rfl, HF⟩, by simp [intOf]; omega⟩
              refine AllH.cons (o := { dst := some 84, op := Op.buildSlice 55 1 #[(0, Operand.tmp 83)], type := 55, pos := _, after := #[{ on := 8, ground := Ground.data }], guard := none }) rfl (fun K' hK => ?_) ?_
              · rw [if_pos (by rfl)]
                go_simp
                refine hK.out _ _ (k1.alloc _) ?_
                clear hK
                try simp only [Go.Act.put, List.setIfInBounds_toArray, List.set_cons_zero, List.set_cons_succ]
                have q6 := q1.newx
                obtain ⟨E6, hE6⟩ : ∃ E, E = E1.alloc (.cells #[.int .u16 x.1, .string x.2] 50) := ⟨_, rfl⟩
                rw [← hE6] at q6 ⊢
                clear hE6
                have k6 := q6.t
                refine wpH_call (i := 4) (o := { dst := some 79, op := Op.call { callee := Callee.builtin Builtin.append, args := #[Operand.tmp 75, Operand.tmp 78], argTypes := #[55, 55] }, type := 55, pos := _, after := #[{ on := 0, ground := Ground.data }, { on := 3, ground := Ground.data }], guard := none }) (by kernel_rfl) rfl (fun K' hK => ?_)
                rw [if_pos (by rfl)]
                refine wp_append_rs _ _ 55 50 rfl _ 2 24 Un.info31 Try.underlying55 rfl (by decide) W4.heap.size (.slice (some ⟨D0.heap.size, 0, none⟩) 0 0) 0 [] rfl (q6.row _ _ rfl) (.slice (some ⟨g, 0, none⟩) tt c) tt (Un.cellsK P1) rfl (HP1.out _ k6) (cellsK_one' P1) (by have := HE1.out; have := HE2.out; unfold maxLen; omega) (by have := HE1.out; have := HE2.out; omega) k6.size ?_
                intro v7 w7 o7 g7 p7
                rw [Nat.zero_add, List.nil_append] at o7
                obtain ⟨a7, c7, e7⟩ := own_form o7
                subst e7
                have q7 := q6.app (A5 := P1) (by rw [HE1.out]; exact o7) g7 p7
                have k7 := q7.t
                clear o7 g7 p7
                refine hK.out _ _ k7 ?_
                clear hK
                try simp only [Go.Act.put, List.setIfInBounds_toArray, List.set_cons_zero, List.set_cons_succ]
                refine wpH_call (i := 10) (o := { dst := some 85, op := Op.call { callee := Callee.builtin Builtin.append, args := #[Operand.tmp 79, Operand.tmp 84], argTypes := #[55, 55] }, type := 55, pos := _, after := #[{ on := 4, ground := Ground.data }, { on := 9, ground := Ground.data }, { on := 4, ground := Ground.chain }], guard := none }) (by kernel_rfl) rfl (fun K' hK => ?_)
                rw [if_pos (by rfl)]
                refine wp_append_rs _ _ 55 50 rfl _ 2 24 Un.info31 Try.underlying55 rfl (by decide) W4.heap.size (.slice a7 tt c7) P1.length (Un.cellsK P1) rfl (q7.row _ _ rfl) (.slice (some ⟨E1.heap.size, 0, none⟩) 1 1) 1 [.int .u16 x.1, .string x.2] rfl (q7.one _ rfl).1 (by simp [Value.oneCell']) (by have := HE1.out; have := HE2.out; unfold maxLen; omega) (by have := HE1.out; have := HE2.out; omega) k7.size ?_
                intro v8 w8 o8 g8 p8
                rw [HE1.out] at o8
                obtain ⟨a8, c8, e8⟩ := own_form o8
                subst e8
                have q8 := q7.app (A5 := P1 ++ [x]) (by rw [HE2.out, Un.cellsK_app]; exact o8) g8 p8
                have k8 := q8.t
                clear o8 g8 p8
                refine hK.out _ _ k8 ?_
                clear hK
                try simp only [Go.Act.put, List.setIfInBounds_toArray, List.set_cons_zero, List.set_cons_succ]
                refine wpH_call (i := 14) (o := { dst := some 89, op := Op.call { callee := Callee.builtin Builtin.append, args := #[Operand.tmp 85, Operand.tmp 88], argTypes := #[55, 55] }, type := 55, pos := _, after := #[{ on := 10, ground := Ground.data }, { on := 13, ground := Ground.data }, { on := 10, ground := Ground.chain }], guard := none }) (by kernel_rfl) rfl (fun K' hK => ?_)
                rw [if_pos (by rfl)]
                refine wp_append_rs _ _ 55 50 rfl _ 2 24 Un.info31 Try.underlying55 rfl (by decide) W4.heap.size (.slice a8 (tt + 1) c8) (P1 ++ [x]).length (Un.cellsK (P1 ++ [x])) rfl (q8.row _ _ rfl) (.slice (some ⟨g, of2, none⟩) (m - tt) (c - tt)) (m - tt) (Un.cellsK P2) rfl (HP2.out _ k8) (cellsK_one' P2) (by have := HE1.out; have := HE2.out; unfold maxLen; omega) (by have := HE1.out; have := HE2.out; omega) k8.size ?_
                intro v9 w9 o9 g9 p9
                rw [HE2.out, ← Un.cellsK_app, show tt + 1 + (m - tt) = m + 1 by omega] at o9
                obtain ⟨a9, c9, e9, -, -⟩ := own_some o9 (by omega)
                subst e9
                have q9 := q8.app (A5 := P1 ++ [x] ++ P2) (by rw [HE3.out]; exact o9) g9 p9
                have k9 := q9.t
                have HF := hid (HNEW.out _ _ _ _ rfl k9 o9)
                clear o9 g9 p9
                refine hK.out _ _ k9 ?_
                clear hK
                try simp only [Go.Act.put, List.setIfInBounds_toArray, List.set_cons_zero, List.set_cons_succ]
                refine wpH_take (i := 15) (v := (.slice (some ⟨a9, 0, none⟩) (m + 1) c9)) (some 7) rfl rfl (by kernel_rfl) (by kernel_rfl) (by kernel_rfl) (fun _ _ _ h => h) (Or.inl ⟨by rfl, fun w' hS => (by go_simp)⟩) k9 ?_
                try simp only [Go.Act.put, List.setIfInBounds_toArray, List.set_cons_zero, List.set_cons_succ]
                refine wpAnyH_done (by kernel_rfl) ?_ _
                clear C0 C1 HP1 HP2 HNEW HO1 HO2
                go_wp2
                exact ⟨⟨i + 1, a9, c9, m + 1, _, by omega, by omega, rfl, rfl, HF⟩, by simp [intOf]; omega⟩
              exact AllH.nil
            refine AllH.cons (o := { dst := some 84, op := Op.buildSlice 55 1 #[(0, Operand.tmp 83)], type := 55, pos := _, after := #[{ on := 8, ground := Ground.data }], guard := none }) rfl (fun K' hK => ?_) ?_
            · rw [if_pos (by rfl)]
              go_simp
              refine hK.out _ _ (k0.alloc _) ?_
              clear hK
              try simp only [Go.Act.put, List.setIfInBounds_toArray, List.set_cons_zero, List.set_cons_succ]
              have q10 := q0.newx
              obtain ⟨E10, hE10⟩ : ∃ E, E = D0.alloc (.cells #[.int .u16 x.1, .string x.2] 50) := ⟨_, rfl⟩
              rw [← hE10] at q10 ⊢
              clear hE10
              have k10 := q10.t
              refine wpH_call (i := 0) (o := { dst := some 75, op := Op.buildSlice 55 0 #[], type := 55, pos := _, after := #[], guard := none }) (by kernel_rfl) rfl (fun K' hK => ?_)
              rw [if_pos (by rfl)]
              go_simp
              refine hK.out _ _ (k10.alloc _) ?_
              clear hK
              try simp only [Go.Act.put, List.setIfInBounds_toArray, List.set_cons_zero, List.set_cons_succ]
              have q11 := q10.new0
              obtain ⟨E11, hE11⟩ : ∃ E, E = E10.alloc (.cells #[] 50) := ⟨_, rfl⟩
              rw [← hE11] at q11 ⊢
              clear hE11
              have k11 := q11.t
              refine wpH_call (i := 4) (o := { dst := some 79, op := Op.call { callee := Callee.builtin Builtin.append, args := #[Operand.tmp 75, Operand.tmp 78], argTypes := #[55, 55] }, type := 55, pos := _, after := #[{ on := 0, ground := Ground.data }, { on := 3, ground := Ground.data }], guard := none }) (by kernel_rfl) rfl (fun K' hK => ?_)
              rw [if_pos (by rfl)]
              refine wp_append_rs _ _ 55 50 rfl _ 2 24 Un.info31 Try.underlying55 rfl (by decide) W4.heap.size (.slice (some ⟨E10.heap.size, 0, none⟩) 0 0) 0 [] rfl (q11.row _ _ rfl) (.slice (some ⟨g, 0, none⟩) tt c) tt (Un.cellsK P1) rfl (HP1.out _ k11) (cellsK_one' P1) (by have := HE1.out; have := HE2.out; unfold maxLen; omega) (by have := HE1.out; have := HE2.out; omega) k11.size ?_
              intro v12 w12 o12 g12 p12
              rw [Nat.zero_add, List.nil_append] at o12
              obtain ⟨a12, c12, e12⟩ := own_form o12
              subst e12
              have q12 := q11.app (A5 := P1) (by rw [HE1.out]; exact o12) g12 p12
              have k12 := q12.t
              clear o12 g12 p12
              refine hK.out _ _ k12 ?_
              clear hK
              try simp only [Go.Act.put, List.setIfInBounds_toArray, List.set_cons_zero, List.set_cons_succ]
              refine wpH_call (i := 10) (o := { dst := some 85, op := Op.call { callee := Callee.builtin Builtin.append, args := #[Operand.tmp 79, Operand.tmp 84], argTypes := #[55, 55] }, type := 55, pos := _, after := #[{ on := 4, ground := Ground.data }, { on := 9, ground := Ground.data }, { on := 4, ground := Ground.chain }], guard := none }) (by kernel_rfl) rfl (fun K' hK => ?_)
              rw [if_pos (by rfl)]
              refine wp_append_rs _ _ 55 50 rfl _ 2 24 Un.info31 Try.underlying55 rfl (by decide) W4.heap.size (.slice a12 tt c12) P1.length (Un.cellsK P1) rfl (q12.row _ _ rfl) (.slice (some ⟨D0.heap.size, 0, none⟩) 1 1) 1 [.int .u16 x.1, .string x.2] rfl (q12.one _ rfl).1 (by simp [Value.oneCell']) (by have := HE1.out; have := HE2.out; unfold maxLen; omega) (by have := HE1.out; have := HE2.out; omega) k12.size ?_
              intro v13 w13 o13 g13 p13
              rw [HE1.out] at o13
              obtain ⟨a13, c13, e13⟩ := own_form o13
              subst e13
              have q13 := q12.app (A5 := P1 ++ [x]) (by rw [HE2.out, Un.cellsK_app]; exact o13) g13 p13
              have k13 := q13.t
              clear o13 g13 p13
              refine hK.out _ _ k13 ?_
              clear hK
              try simp only [Go.Act.put, List.setIfInBounds_toArray, List.set_cons_zero, List.set_cons_succ]
              refine wpH_call (i := 14) (o := { dst := some 89, op := Op.call { callee := Callee.builtin Builtin.append, args := #[Operand.tmp 85, Operand.tmp 88], argTypes := #[55, 55] }, type := 55, pos := _, after := #[{ on := 10, ground := Ground.data }, { on := 13, ground := Ground.data }, { on := 10, ground := Ground.chain }], guard := none }) (by kernel_rfl) rfl (fun K' hK => ?_)
              rw [if_pos (by rfl)]
              refine wp_append_rs _ _ 55 50 rfl _ 2 24 Un.info31 Try.underlying55 rfl (by decide) W4.heap.size (.slice a13 (tt + 1) c13) (P1 ++ [x]).length (Un.cellsK (P1 ++ [x])) rfl (q13.row _ _ rfl) (.slice (some ⟨g, of2, none⟩) (m - tt) (c - tt)) (m - tt) (Un.cellsK P2) rfl (HP2.out _ k13) (cellsK_one' P2) (by have := HE1.out; have := HE2.out; unfold maxLen; omega) (by have := HE1.out; have := HE2.out; omega) k13.size ?_
              intro v14 w14 o14 g14 p14
              rw [HE2.out, ← Un.cellsK_app, show tt + 1 + (m - tt) = m + 1 by omega] at o14
              obtain ⟨a14, c14, e14, -, -⟩ := own_some o14 (by omega)
              subst e14
              have q14 := q13.app (A5 := P1 ++ [x] ++ P2) (by rw [HE3.out]; exact o14) g14 p14
              have k14 := q14.t
              have HF := hid (HNEW.out _ _ _ _ rfl k14 o14)
              clear o14 g14 p14
              refine hK.out _ _ k14 ?_
              clear hK
              try simp only [Go.Act.put, List.setIfInBounds_toArray, List.set_cons_zero, List.set_cons_succ]
              refine wpH_take (i := 15) (v := (.slice (some ⟨a14, 0, none⟩) (m + 1) c14)) (some 7) rfl rfl (by kernel_rfl) (by kernel_rfl) (by kernel_rfl) (fun _ _ _ h => h) (Or.inl ⟨by rfl, fun w' hS => (by go_simp)⟩) k14 ?_
              try simp only [Go.Act.put, List.setIfInBounds_toArray, List.set_cons_zero, List.set_cons_succ]
              refine wpAnyH_done (by kernel_rfl) ?_ _
              clear C0 C1 HP1 HP2 HNEW HO1 HO2
              go_wp2
              exact ⟨⟨i + 1, a14, c14, m + 1, _, by omega, by omega, rfl, rfl, HF⟩, by simp [intOf]; omega⟩
            exact AllH.nil
      · have z6 : (64 : Int) < (x.2.size : Int) := by omega
        have HMY : Hid (mayL (U.take (i + 1)) = mayL (U.take i)) := hid (by rw [HTK.out]; simp [mayL, h64])
        clear HTK h64 HRX HRO HDX
        go_wp2
        refine ⟨⟨i + 1, g, c, m, O, by omega, by omega, rfl, rfl, hid ?_⟩, by simp [intOf]; omega⟩
        rw [HMY.out]
        exact HI.out
    · have ei : i = N := by omega
      subst ei
      have zi : ¬ (i : Int) < (i : Int) := by omega
      have HZ : Hid (m = O.length ∧ O.Perm (mayL U) ∧ O.Pairwise (leX X) ∧ wr.ownsRow w.heap.size 50 2 (.slice (some ⟨g, 0, none⟩) m c) m (Un.cellsK O) ∧ Touch [] w wr) := hid (by
        obtain ⟨q1, q2, q3, q4, q5, q6⟩ := HI.out
        rw [List.take_of_length_le (by have := HN.out; omega)] at q3
        exact ⟨q1, q3, q4, q6, HTV.out.trans' (HT1.out.trans' q2)⟩)
      have hmc : m ≤ c ∧ c ≤ 9223372036854775807 := by
        rcases own_addr HZ.out.2.2.2.1 with ⟨q, _⟩ | ⟨_, _, _, q1, q2⟩
        · cases q
        · unfold maxLen at q2; exact ⟨q1, by omega⟩
      obtain ⟨hmc, hcc⟩ := hmc
      clear HX HUO HRC HDC HI M0 M1 M2
      by_cases hnm : n < m
      · have zn : (n : Int) < (m : Int) := by omega
        have zc : (n : Int) ≤ (c : Int) := by omega
        have HF : Hid (n = min n O.length ∧ Rs 50 2 wr (.slice (some ⟨g, 0, none⟩) n c) n (Un.cellsK (O.take n))) := hid ⟨by have := HZ.out.1; omega, by
          have := rs_part (i := 0) (m := n) HZ.out.2.2.2.1 HZ.out.1 (by omega)
          simpa using this⟩
        go_wp2
        go_ret
        exact ⟨O, _, n, c, rfl, HZ.out.2.1, HZ.out.2.2.1, HF.out.1, HF.out.2, HZ.out.2.2.2.2⟩
      · have zn : ¬ (n : Int) < (m : Int) := by omega
        have HF : Hid (m = min n O.length ∧ Rs 50 2 wr (.slice (some ⟨g, 0, none⟩) m c) m (Un.cellsK (O.take m))) := hid ⟨by have := HZ.out.1; omega, by
          rw [List.take_of_length_le (by have := HZ.out.1; omega)]
          exact Rs.of_own HZ.out.2.2.2.1⟩
        go_wp2
        go_ret
        exact ⟨O, _, m, c, rfl, HZ.out.2.1, HZ.out.2.2.1, HF.out.1, HF.out.2, HZ.out.2.2.2.2⟩
end
end Go.Proofs.Ytbadlkjffelkhaa.Sk
