/- The program's gates of a list of steps, each once and rising, and how long its sleeps are in all; the condition is that the list lies in memory, within the form's reach. -/
import Derived.Test.YtgjojdlbighoaaaDoorGiv
import Derived.Test.YtgjojdlbighoaaaDoorCpt
import Derived.Test.YtgjojdlbighoaaaDoorShs
import Derived.Lib.SmallJoins
namespace Go.Proofs.YtgjojdlbighoaaaDoor
open Go.RowKit Go.Sort Go.Maps Go.ChangeMaps Go.Shelf
set_option linter.unusedVariables false

def ints (l : List Int) : List Value := l.map (Value.int .i64)
theorem ints_len (l : List Int) : (ints l).length = l.length := by simp [ints]
theorem ints_app (l k : List Int) : ints (l ++ k) = ints l ++ ints k := by simp [ints]
theorem own_block {w : World} {base e g c n k : Nat} {xs : List Value} (h : w.ownsRow base e k (.slice (some ⟨g, 0, none⟩) n c) n xs) :
    ∃ cur, w.heap[g]? = some (.cells cur e (0, 0)) ∧ n ≤ c ∧ c ≤ maxLen ∧ cur.size = c * k ∧ cur.toList.take (n * k) = xs ∧ base ≤ g ∧ xs.length = n * k := by
  obtain ⟨h1, h2 | ⟨g', cap', cur, hv, hg, hc, hn, hm, hs, ht⟩⟩ := h
  · cases h2.1
  · simp only [Value.slice.injEq, Option.some.injEq, Addr.mk.injEq, and_true, true_and] at hv
    obtain ⟨rfl, rfl⟩ := hv
    exact ⟨cur, hc, hn, hm, hs, ht, hg, h1⟩
theorem own_cell {w : World} {base e g c n k : Nat} {xs : List Value} (h : w.ownsRow base e k (.slice (some ⟨g, 0, none⟩) n c) n xs) {p : Nat} {v : Value} (hp : xs[p]? = some v) :
    w.cell? ⟨g, p, none⟩ = some v := by
  obtain ⟨cur, hc, hn, hm, hs, ht, hg, hl⟩ := own_block h
  have hp' : p < xs.length := (List.getElem?_eq_some_iff.1 hp).1
  have : cur[p]? = some v := by
    rw [← Array.getElem?_toList, ← hp, ← ht, List.getElem?_take, if_pos (by omega)]
  simp [World.cell?, hc, this]
theorem own_frozen {w : World} {base e g c n k : Nat} {xs : List Value} (h : w.ownsRow base e k (.slice (some ⟨g, 0, none⟩) n c) n xs) (p : Nat) : w.frozen? ⟨g, p, none⟩ = false := by
  obtain ⟨cur, hc, _⟩ := own_block h
  exact Joins.unfrozen_of_block hc _
theorem own_holds {w : World} {base g c : Nat} {F : List Int} (h : w.ownsRow base 3 1 (.slice (some ⟨g, 0, none⟩) F.length c) F.length (ints F)) : Holds (Value.int .i64) w g 0 F.toArray := by
  intro j hj
  simp at hj
  refine ⟨?_, own_frozen h _⟩
  rw [Nat.zero_add]
  exact own_cell h (by simp [ints, hj])
theorem heap_mapBlock_other (w : World) (g k : Nat) (f : Array Value → Array Value) (h : k ≠ g) : (mapBlock w g f).heap[k]? = w.heap[k]? := by
  simp only [mapBlock, Array.getElem?_modify]
  rw [if_neg (fun e => h e.symm)]
theorem gr_put {w0 w : World} (h : Gr w0 w) {g : Nat} (hg : w0.heap.size ≤ g) (n : Nat) (xs : Array Int) : Gr w0 (putRow (Value.int .i64) (Go.Sort.ahead w n) g 0 xs) := by
  refine ⟨h.below.os, h.below.tape, h.below.output, by unfold putRow mapBlock Go.Sort.ahead; simp; exact h.size, fun k hk => ?_⟩
  rw [show (putRow (Value.int .i64) (Go.Sort.ahead w n) g 0 xs).heap[k]? = w.heap[k]? from heap_mapBlock_other (Go.Sort.ahead w n) g k _ (by omega)]
  exact h.below.block k hk
theorem size_put (w : World) (g n : Nat) (xs : Array Int) : (putRow (Value.int .i64) (Go.Sort.ahead w n) g 0 xs).heap.size = w.heap.size := by unfold putRow mapBlock Go.Sort.ahead; simp
theorem gr_grow' {w0 w : World} (h : Gr w0 w) (os : Array Obj) : Gr w0 (grow w os) :=
  ⟨h.below.os, h.below.tape, h.below.output, by rw [size_grow]; have := h.size; omega, fun k hk => by rw [heap_grow_old _ _ (Nat.lt_of_lt_of_le hk h.size)]; exact h.below.block k hk⟩
theorem holds_cell {w : World} {g : Nat} {F : List Int} (h : Holds (Value.int .i64) w g 0 F.toArray) (i : Nat) (hi : i < F.length) : w.cell? ⟨g, i, none⟩ = some (.int .i64 F[i]) := by
  have := (h i (by simpa using hi)).1
  rw [Nat.zero_add] at this
  simpa [hi] using this
theorem cell_one_new (w : World) (x : Value) (t : TypeId) : ∀ j u, [x][j]? = some u → (w.alloc (.cells #[x] t)).cell? ((⟨w.heap.size, 0, none⟩ : Addr).add j) = some u := by
  intro j u hj
  match j, hj with
  | 0, hj => simp at hj; subst hj; simp [Addr.add]
theorem info3 : (Tryd.prog.info? 3).map (fun i => (i.zero, i.size, i.bytes)) = some (some (.int .i64 0), 1, 8) := by kernel_rfl
/-- a slice of numbers in memory -/
def In (w : World) (A : Option Addr) (Z : List Int) : Prop := ∀ i, (h : i < Z.length) → ∃ b, A = some ⟨b, 0, none⟩ ∧ w.cell? ⟨b, i, none⟩ = some (.int .i64 Z[i])
theorem In.gr {w w' : World} {A : Option Addr} {Z : List Int} (h : In w A Z) (hg : Gr w w') : In w' A Z := fun i hi => by
  obtain ⟨b, e, c⟩ := h i hi
  exact ⟨b, e, hg.cell' c⟩
def GatE (w w' : World) (L : List Sp) (e : Ending) : Prop := ∃ A c Z, e = .returned (.slice A (Z : List Int).length c) ∧ In w' A Z ∧ Z.Pairwise (· < ·) ∧ (∀ x, x ∈ Z ↔ x ∈ gl L) ∧ Gr w w' ∧ Z.length ≤ L.length
set_option maxRecDepth 20000 in
set_option maxHeartbeats 2000000 in
theorem gates22 (L : List Sp) (A : Option Addr) (cap : Nat) (w : World) (hs : Sl w A L) (hl : L.length ≤ 5864062014635) :
    Calls Tryd.prog 22 #[.slice A L.length cap] w fun e w' => GatE w w' L e := by
  obtain ⟨i0, hi, hz0, hz1, hz2⟩ := info_parts info3
  have HR : Hid (Sl w A L ∧ L.length ≤ 5864062014635) := ⟨hs, hl⟩
  have hl' : (L.length : Int) ≤ 5864062014635 := by omega
  clear hs hl
  go_enter Tryd.func22, Tryd.ntmps22
  go_wp2
  go_loopw [3, 8] (fun t i wr => ∃ (k : Nat) (v : Value), t = v ∧ i = .int .i64 k ∧ k ≤ L.length ∧ Hid (wr.ownsRow w.heap.size 3 1 v (gl (L.take k)).length (ints (gl (L.take k)))) ∧ Hid (Gr w wr)) (fun _ i _ => L.length - (intOf i).toNat)
  case atStart => exact ⟨0, _, rfl, rfl, Nat.zero_le _, ⟨rfl, Or.inl ⟨rfl, rfl⟩⟩, Gr.refl _⟩
  case round =>
    obtain ⟨k, v, hv0, rfl, hk, HO, HG⟩ := hrel
    subst hv0
    by_cases hlt : k < L.length
    · have hz : (k : Int) < (L.length : Int) := by omega
      have hz' : (0 : Int) ≤ (k : Int) := by omega
      obtain ⟨b, off, rfl, f0, f1, f2⟩ := (HR.out.1.gr HG.out) k hlt
      have HT := gl_take L k hlt
      by_cases h6 : L[k].1 = 6
      · rw [gl_yes _ h6] at HT
        have HX : Hid (gl (L.take (k + 1)) = gl (L.take k) ++ [L[k].2.1]) := HT
        rw [h6] at f0
        clear HT h6
        generalize L[k].2.1 = y at *
        generalize L[k].2.2 = z at *
        have hsz := HG.out.size
        have hll := HR.out.2
        have hgl := gl_len (L.take k)
        rw [List.length_take] at hgl
        have hown2 := (owns_gr HO.out ((Gr.refl wr).alloc (.cells #[.int .i64 6, .int .i64 y, .int .i64 z] 64))).alloc (.cells #[.int .i64 y] 3)
        generalize gl (L.take k) = G at *
        go_wp2_with (at_builtin; refine wpList_append_own _ rfl _ _ 65 rfl w.heap.size 3 i0 (.int .i64 0) 1 8 Tryd.underlying65 hi hz0 hz1 hz2 rfl (by decide) _ G.length (ints G) rfl hown2 ⟨wr.heap.size + 1, 0, none⟩ 1 1 [.int .i64 y] rfl rfl (by have := cell_one_new (wr.alloc (.cells #[.int .i64 6, .int .i64 y, .int .i64 z] 64)) (.int .i64 y) 3; simp only [World.size_alloc] at this; exact this) (by simp [Value.oneCell']) (by unfold maxLen; omega) (by omega) (by simp; omega) ?_; intro v1 w3 hown3 hgrow hnil)
        go_roundw
        case rel =>
          refine ⟨k + 1, _, rfl, by go_num, by omega, ?_, ?_⟩
          · show w3.ownsRow _ _ _ _ _ _
            rw [HX.out, ints_app, List.length_append]
            exact hown3
          · exact Below.grown ((HG.out.alloc _).alloc _) hgrow (by simp; omega) (fun j hj => (HO.out.lt j hj).1)
        case measure => simp [intOf]; omega
      · rw [gl_no _ h6] at HT
        have HX : Hid (gl (L.take (k + 1)) = gl (L.take k)) := by show _ = _; rw [HT, List.append_nil]
        have g6 : (L[k].1 == 6) = false := by simpa using h6
        clear HT h6
        generalize L[k].1 = x at *
        generalize L[k].2.1 = y at *
        generalize L[k].2.2 = z at *
        go_wp2
        go_roundw
        case rel =>
          refine ⟨k + 1, _, rfl, by go_num, by omega, ?_, HG.out.alloc _⟩
          rw [HX.out]
          exact owns_gr HO.out ((Gr.refl _).alloc _)
        case measure => simp [intOf]; omega
    · have hz : ¬ (k : Int) < (L.length : Int) := by omega
      obtain rfl : k = L.length := by omega
      rw [List.take_length] at HO
      have hgl := gl_len L
      have hll := HR.out.2
      rcases hv : HO.out.2 with ⟨rfl, h0⟩ | ⟨g, c, cur, rfl, hg, hc, hn, hm, hsz, ht⟩
      · have HN : Hid (gl L = []) := List.length_eq_zero_iff.1 h0
        clear hv HO hgl
        go_wp2_with (first | (go_at_call 37; refine (Tryd.slices_Sort_int_none _ _ _).mono ?_; rintro e w1 ⟨rfl, rfl⟩) | (go_at_call 38; refine (Tryd.slices_Compact_int_empty _ _ _).mono ?_; rintro e w1 ⟨rfl, rfl⟩))
        go_ret
        refine ⟨none, 0, [], rfl, fun i hi => absurd hi (Nat.not_lt_zero _), List.Pairwise.nil, fun x => by rw [HN.out], HG.out, Nat.zero_le _⟩
      · clear hv
        have hH := own_holds HO.out
        have HB : Hid (w.heap.size ≤ g ∧ g < wr.heap.size ∧ (gl L).length ≤ c) := ⟨hg, block_lt hc, hn⟩
        have C1 : Hid _ := Tryd.slices_Sort_int g 0 c (gl L) wr hH HB.out.2.1 (by omega)
        have hlen : (gl L).length = ((gl L).mergeSort fun x y => decide (x ≤ y)).length := (List.length_mergeSort _).symm
        obtain ⟨S, hS⟩ : ∃ S, ((gl L).mergeSort fun x y => decide (x ≤ y)) = S := ⟨_, rfl⟩
        have HS : Hid (S.Pairwise (· ≤ ·) ∧ (∀ x, x ∈ S ↔ x ∈ gl L) ∧ (gl L).length = S.length) := by rw [← hS]; exact ⟨sorted_le _, sorted_mem _, hlen⟩
        rw [hS] at C1
        have H2 : Hid (∀ n, Holds (Value.int .i64) (putRow (Value.int .i64) (Go.Sort.ahead wr n) g 0 S.toArray) g 0 S.toArray) := fun n => holds_putRow (Value.int .i64) (Go.Sort.ahead wr n) g 0 (gl L).toArray S.toArray (holds_ahead (Value.int .i64) wr n g 0 (gl L).toArray hH) (by simp [HS.out.2.2])
        clear hS hlen hH hg hc hn hm hsz ht HO
        go_wp2_with fail
        refine Calls.mono C1.out ?_
        rintro e w1 ⟨rfl, n1, os, hw1⟩
        have hg1 : Gr w w1 := by rw [hw1]; exact gr_grow' (gr_put HG.out HB.out.1 _ _) _
        have hh1 : Holds (Value.int .i64) w1 g 0 S.toArray := by rw [hw1]; exact holds_grow (Value.int .i64) _ os g 0 S.toArray (by rw [size_put]; exact HB.out.2.1) (H2.out n1)
        have HG1 : Hid (Gr w w1) := hg1
        have C2 : Hid _ := Tryd.slices_Compact_int g 0 c S w1 hh1 (by have := HS.out.2.2; omega) (by have := HS.out.2.2; have := HB.out.2.2; omega)
        have H3 : Hid (∀ q, Holds (Value.int .i64) (putRow (Value.int .i64) (Go.Sort.ahead w1 q) g 0 (Lib.compact S ++ List.replicate (S.length - (Lib.compact S).length) 0).toArray) g 0 (Lib.compact S ++ List.replicate (S.length - (Lib.compact S).length) 0).toArray) := fun q => holds_putRow (Value.int .i64) (Go.Sort.ahead w1 q) g 0 S.toArray _ (holds_ahead (Value.int .i64) w1 q g 0 S.toArray hh1) (by have := compact_len S; simp; omega)
        clear hw1 hg1 hh1 C1 H2
        have hSl := HS.out.2.2
        rw [hSl]
        clear hSl
        go_wp2_with fail
        refine Calls.mono C2.out ?_
        rintro e w2 ⟨rfl, q, hw2⟩
        have h4 := H3.out q
        rw [← hw2] at h4
        have H4 : Hid _ := h4
        have HG2 : Hid (Gr w w2) := by rw [hw2]; exact gr_put HG1.out HB.out.1 _ _
        clear hw2 h4 H3 C2
        go_wp2_with fail
        go_ret
        refine ⟨some ⟨g, 0, none⟩, c, Lib.compact S, rfl, fun i hi => ⟨g, rfl, ?_⟩, compact_lt S HS.out.1, fun x => ?_, ?_, ?_⟩
        · have h5 := holds_cell H4.out i (by rw [List.length_append]; omega)
          rw [h5, List.getElem_append_left hi]
        · rw [compact_mem, HS.out.2.1]
        · exact HG2.out
        · have := compact_len S; have := HS.out.2.2; omega
set_option maxHeartbeats 2000000 in
theorem longest23 (L : List Sp) (A : Option Addr) (cap : Nat) (w : World) (hs : Sl w A L) (hw : WfS L) (hl : L.length ≤ 5864062014635) :
    Calls Tryd.prog 23 #[.slice A L.length cap] w fun e w' => e = .returned (.tuple #[.int .i64 (lonS L 0).1, .bool (lonS L 0).2]) ∧ Gr w w' := by
  have HR : Hid (Sl w A L ∧ WfS L ∧ L.length ≤ 5864062014635) := ⟨hs, hw, hl⟩
  have hl' : (L.length : Int) ≤ 5864062014635 := by omega
  clear hs hl hw
  obtain ⟨T, hT⟩ : ∃ T, lonS L 0 = T := ⟨_, rfl⟩
  have HT : Hid (lonS L 0 = T) := hT
  rw [hT]
  clear hT
  go_enter Tryd.func23, Tryd.ntmps23
  go_wp2
  go_loopw [4, 9] (fun v i wr => ∃ (k : Nat) (s : Int), i = .int .i64 k ∧ k ≤ L.length ∧ v = .int .i64 s ∧ 0 ≤ s ∧ s ≤ 4611686018427387904 ∧ Hid (lonS (L.drop k) s = T) ∧ Hid (Gr w wr)) (fun _ i _ => L.length - (intOf i).toNat)
  case atStart => exact ⟨0, 0, rfl, Nat.zero_le _, rfl, by omega, by omega, HT.out, Gr.refl _⟩
  case round =>
    obtain ⟨k, s, rfl, hk, rfl, hs0, hs1, HO, HG⟩ := hrel
    by_cases hlt : k < L.length
    · have hz : (k : Int) < (L.length : Int) := by omega
      have hz' : (0 : Int) ≤ (k : Int) := by omega
      obtain ⟨b, off, rfl, f0, f1, f2⟩ := (HR.out.1.gr HG.out) k hlt
      have hT := HO.out
      rw [drop_at L k hlt] at hT
      obtain ⟨hy1, hy2⟩ := (HR.out.2.1 _ (List.getElem_mem hlt)).2.1
      have wd : IntKind.i64.wrap (4611686018427387904 - s) = 4611686018427387904 - s := by rw [IntKind.wrap_i64]; omega
      by_cases h7 : L[k].1 = 7
      · by_cases hm : 4611686018427387904 - s < L[k].2.1
        · rw [lon_many _ _ _ h7 hm] at hT
          have HE : Hid ((4611686018427387904, false) = T) := hT
          rw [h7] at f0
          clear hT h7
          generalize L[k].2.1 = y at *
          generalize L[k].2.2 = z at *
          go_wp2
          go_ret2
          exact ⟨by rw [← HE.out]; rfl, HG.out.alloc _⟩
        · by_cases hp : 0 < L[k].2.1
          · rw [lon_pos _ _ _ h7 hm hp] at hT
            have wa : IntKind.i64.wrap (s + L[k].2.1) = s + L[k].2.1 := by rw [IntKind.wrap_i64]; omega
            have HE : Hid _ := hT
            rw [h7] at f0
            clear hT h7
            generalize L[k].2.1 = y at *
            generalize L[k].2.2 = z at *
            have hmx : max y 0 = y := by omega
            go_wp2
            go_roundw
            case rel => exact ⟨k + 1, s + y, by go_num, by omega, rfl, by omega, by omega, HE.out, HG.out.alloc _⟩
            case measure => simp [intOf]; omega
          · rw [lon_zero _ _ _ h7 hs1 hp] at hT
            have wa : IntKind.i64.wrap s = s := by rw [IntKind.wrap_i64]; omega
            have HE : Hid _ := hT
            have hle : L[k].2.1 ≤ 0 := by omega
            rw [h7] at f0
            clear hT h7 hp
            generalize L[k].2.1 = y at *
            generalize L[k].2.2 = z at *
            have hmx : max y 0 = 0 := by omega
            have wa0 : IntKind.i64.wrap (s + 0) = s := by rw [IntKind.wrap_i64]; omega
            go_wp2
            go_roundw
            case rel => exact ⟨k + 1, s, by go_num, by omega, rfl, by omega, by omega, HE.out, HG.out.alloc _⟩
            case measure => simp [intOf]; omega
      · rw [lon_no _ _ _ h7] at hT
        have HE : Hid _ := hT
        have g7 : (L[k].1 == 7) = false := by simpa using h7
        clear hT h7
        generalize L[k].1 = x at *
        generalize L[k].2.1 = y at *
        generalize L[k].2.2 = z at *
        go_wp2
        go_roundw
        case rel => exact ⟨k + 1, s, by go_num, by omega, rfl, by omega, by omega, HE.out, HG.out.alloc _⟩
        case measure => simp [intOf]; omega
    · have hz : ¬ (k : Int) < (L.length : Int) := by omega
      obtain rfl : k = L.length := by omega
      have hT := HO.out
      rw [List.drop_length, lon_end] at hT
      have HE : Hid ((s, true) = T) := hT
      clear hT
      go_wp2
      go_ret2
      exact ⟨by rw [← HE.out]; rfl, HG.out⟩
end Go.Proofs.YtgjojdlbighoaaaDoor
