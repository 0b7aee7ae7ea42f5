/- The contract of the law's look whether a queue by turn stands as a list. -/
import Derived.Test.YtonkclllofbklaaRpu
import Derived.Test.YtonkclllofbklaaTra
namespace Go.Proofs.Ytonkclllofbklaa
open Go.RowKit Go.Maps Go.ChangeMaps
set_option linter.unusedVariables false
theorem fnd_mem {l : List Tm} {k : Int} : 0 ≤ fnd l k ↔ k ∈ l.map Tm.it := by
  unfold fnd
  cases h : l.findIdx? (fun x => x.it == k) with
  | none =>
    rw [List.findIdx?_eq_none_iff] at h
    refine ⟨fun e => by simp at e, fun e => ?_⟩
    rw [List.mem_map] at e
    obtain ⟨x, hx, e⟩ := e
    have := h x hx
    simp [e] at this
  | some i =>
    rw [List.findIdx?_eq_some_iff_getElem] at h
    obtain ⟨h1, h2, _⟩ := h
    refine ⟨fun _ => List.mem_map.2 ⟨l[i], List.getElem_mem h1, by simpa using h2⟩, fun _ => ?_⟩
    show (0 : Int) ≤ (i : Int)
    omega
theorem fnd_lt {l : List Tm} {k : Int} {p : Nat} (h : fnd l k = (p : Int)) : ∃ hp : p < l.length, (gtT l p).it = k := by
  unfold fnd at h
  cases h' : l.findIdx? (fun x => x.it == k) with
  | none => rw [h'] at h; exact absurd h (by show ¬ ((-1 : Int) = (p : Int)); omega)
  | some i =>
    rw [h'] at h
    have e : i = p := by have h : (i : Int) = (p : Int) := h; omega
    subst e
    rw [List.findIdx?_eq_some_iff_getElem] at h'
    obtain ⟨h1, h2, _⟩ := h'
    exact ⟨h1, by rw [gtT_eq h1]; simpa using h2⟩
theorem fnd_cases (l : List Tm) (k : Int) : fnd l k = -1 ∨ ∃ p : Nat, fnd l k = p := by
  unfold fnd
  cases l.findIdx? (fun x => x.it == k) with
  | none => exact Or.inl rfl
  | some i => exact Or.inr ⟨i, rfl⟩
/-- How all stands behind n rounds. -/
def AlR (w wr : World) (v : Value) (xs : List Int) (n : Nat) : Prop := ∃ ys : List Int, ys.length = xs.length ∧ (∀ j, n ≤ j → ys.getD j 0 = xs.getD j 0) ∧ wr.ownsRow w.heap.size 3 1 v xs.length (ints ys) ∧ Touch [] w wr
theorem ints_at {ys : List Int} {n : Nat} (h : n < ys.length) : (ints ys)[n]? = some (.int .i64 (ys.getD n 0)) := by
  unfold ints
  rw [List.getElem?_map, List.getElem?_eq_getElem h]
  simp [List.getD_eq_getElem?_getD, List.getElem?_eq_getElem h]
theorem AlR.step {w wr w1 : World} {g c : Nat} {xs : List Int} {n : Nat} {y : Int} (h : AlR w wr (.slice (some ⟨g, 0, none⟩) xs.length c) xs n) (ht : Touch [] wr w1) : AlR w (w1.setCell ⟨g, n, none⟩ (.int .i64 y)) (.slice (some ⟨g, 0, none⟩) xs.length c) xs (n + 1) := by
  obtain ⟨ys, h1, h2, h3, h4⟩ := h
  have hg := (h3.lt g rfl).1
  refine ⟨ys.set n y, by simpa using h1, fun j hj => ?_, ?_, ?_⟩
  · rw [← h2 j (by omega)]
    simp only [List.getD_eq_getElem?_getD]
    rw [List.getElem?_set_ne (by omega)]
  · have := own_set (own_touch h3 ht (fun _ _ e => by cases e)) n (.int .i64 y)
    unfold ints at this ⊢
    rw [List.map_set]
    exact this
  · exact (h4.trans' ht).setCell (Or.inr hg) _
theorem AlR.cell {w wr : World} {v : Value} {xs : List Int} {n : Nat} (h : AlR w wr v xs n) (hn : n < xs.length) : ∃ g c, v = .slice (some ⟨g, 0, none⟩) xs.length c ∧ wr.cell? ⟨g, n, none⟩ = some (.int .i64 (xs.getD n 0)) ∧ wr.frozen? ⟨g, n, none⟩ = false := by
  obtain ⟨ys, h1, h2, h3, h4⟩ := h
  obtain ⟨g, c, rfl, _⟩ := h3.form (by omega)
  refine ⟨g, c, rfl, ?_, own_frozen h3 n⟩
  rw [← h2 n (Nat.le_refl _)]
  exact own_cell h3 (ints_at (by omega))
theorem map_it {l : List Tm} {n : Nat} (h : n < l.length) : (gtT l n).it = (l.map Tm.it).getD n 0 := by
  rw [gtT_eq h]
  simp [List.getD_eq_getElem?_getD, h]
set_option maxHeartbeats 4000000 in
set_option maxRecDepth 100000 in
theorem turns18 (w : World) (q : Nat) (F : List Nat) (xs : List Int) (k : Int) (B : Nat) (v : Value) (l : List Tm) (hu : Uq w q F xs) (hr : RN w B v l) (hm : l.map Tm.it = xs) (hk : W64 k) :
    Calls Try.prog 18 #[PT q, v, .int .i64 k] w fun e w' => e = .returned (.bool true) ∧ Touch [] w w' := by
  have hlen : l.length = xs.length := by rw [← hm]; simp
  have hle := hu.len
  have HA := hid (uall w q F xs hu)
  have HL : Hid (∀ w1, Touch [] w w1 → Calls Try.prog 31 #[.pointer (some ⟨q, 0, none⟩)] w1 fun e w' => e = .returned (.int .i64 xs.length) ∧ w' = w1) := fun w1 t => ulen w1 q F xs (hu.keep0 t)
  have HH : Hid (∀ w1, Touch [] w w1 → Calls Try.prog 30 #[.pointer (some ⟨q, 0, none⟩), .int .i64 k] w1 fun e w' => e = .returned (.bool (decide (k ∈ xs))) ∧ Touch [] w1 w') := fun w1 t => uhas w1 q F xs k hk (hu.keep0 t)
  have HF : Hid (∀ w1, Touch [] w w1 → Calls Try.prog 10 #[v, .int .i64 k] w1 fun e w' => e = .returned (.int .i64 (fnd l k)) ∧ Touch [] w1 w') := fun w1 t => find10 w1 B v l k (hr.keep0 t).rl (by omega)
  have HX : Hid (∀ w1, Touch [] w w1 → ∀ n, n < xs.length → Calls Try.prog 30 #[.pointer (some ⟨q, 0, none⟩), .int .i64 (xs.getD n 0)] w1 fun e w' => e = .returned (.bool true) ∧ Touch [] w1 w') := fun w1 t n hn => by
    have hmem : xs.getD n 0 ∈ xs := by
      simp only [List.getD_eq_getElem?_getD, List.getElem?_eq_getElem hn, Option.getD_some]
      exact List.getElem_mem hn
    have := uhas w1 q F xs (xs.getD n 0) (hu.wf _ hmem) (hu.keep0 t)
    rw [decide_eq_true hmem] at this
    exact this
  have HFr : Hid (∀ w1, Touch [] w w1 → Calls Try.prog 28 #[.pointer (some ⟨q, 0, none⟩)] w1 fun e w' => e = .returned (.tuple #[.int .i64 (xs.headD 0), .bool (decide (0 < xs.length))]) ∧ w' = w1) := fun w1 t => ufront w1 q F xs (hu.keep0 t)
  have hfB : decide (0 ≤ fnd l k) = decide (k ∈ xs) := by rw [decide_eq_decide, ← hm]; exact fnd_mem
  obtain ⟨g, c, rfl, hrl⟩ := hr
  have HR := hid hrl
  have HLn := hid hlen
  have HM := hid hm
  clear hrl hu hm
  rw [← hfB] at HH
  clear hfB
  generalize fnd l k = f at *
  rw [hlen] at HF HR ⊢
  clear hlen
  unfold PT at HA ⊢
  go_enter Try.func18, Try.ntmps18
  go_wp2_with fail
  refine HA.out.mono ?_
  rintro e w1 ⟨va, rfl, oa, ta⟩
  obtain ⟨aa, ca, rfl⟩ := own_form oa
  have OA := hid (show AlR w w1 (.slice aa xs.length ca) xs 0 from ⟨xs, rfl, fun _ _ => rfl, oa, ta⟩)
  have TA := hid ta
  clear oa ta HA
  go_wp2_with (first
    | (go_at_call 31; refine (HL.out _ TA.out).mono ?_; rintro e w2 ⟨rfl, rfl⟩)
    | (go_at_call 30; refine (HH.out _ TA.out).mono ?_; rintro e w3 ⟨rfl, t3⟩; have T3 := hid (TA.out.trans' t3); have OA3 := hid (show AlR w w3 (.slice aa xs.length ca) xs 0 from by obtain ⟨ys, y1, y2, y3, y4⟩ := OA.out; exact ⟨ys, y1, y2, own_touch y3 t3 (fun _ _ e => by cases e), y4.trans' t3⟩); clear t3)
    | (go_at_call 10; refine (HF.out _ T3.out).mono ?_; rintro e w4 ⟨rfl, t4⟩; have T4 := hid (T3.out.trans' t4); have OA4 := hid (show AlR w w4 (.slice aa xs.length ca) xs 0 from by obtain ⟨ys, y1, y2, y3, y4⟩ := OA3.out; exact ⟨ys, y1, y2, own_touch y3 t4 (fun _ _ e => by cases e), y4.trans' t4⟩); clear t4))
  clear HH HF OA OA3 T3 TA HL
  have zN : (xs.length : Int) ≤ 65536 := by omega
  go_loopw [38] (fun i wr => ∃ n : Nat, i = .int .i64 n ∧ n ≤ xs.length ∧ Hid (AlR w wr (.slice aa xs.length ca) xs n)) (fun i _ => xs.length - (intOf i).toNat)
  case atStart => exact ⟨0, rfl, Nat.zero_le _, OA4⟩
  case round =>
    clear OA4 T4
    obtain ⟨n, rfl, hn, HK⟩ := hrel
    by_cases hlt : n < xs.length
    · have zn : (n : Int) < (xs.length : Int) := by omega
      obtain ⟨g2, c2, e2, ac, af⟩ := HK.out.cell hlt
      injection e2 with e3 e4 e5
      subst e3 e5
      have TW : Touch [] w wr := HK.out.choose_spec.2.2.2
      obtain ⟨g', eg, eN, b0, b1⟩ := (HR.out.keep0 TW).cells (k := n) (by rw [HLn.out]; exact hlt)
      clear eN
      simp only [Option.some.injEq, Addr.mk.injEq, and_true] at eg
      subst eg
      rw [map_it (by rw [HLn.out]; exact hlt), HM.out] at b1
      have HXn := hid (fun w1 (t : Touch [] wr w1) => HX.out w1 (TW.trans' t) n hlt)
      have HTW := hid TW
      have hgl : g2 < wr.heap.size := by
        obtain ⟨ys, y1, y2, y3, y4⟩ := HK.out
        exact (y3.lt g2 rfl).2
      clear TW
      generalize xs.getD n 0 = y at *
      generalize (gtT l n).at_ = ta at *
      go_wp2_with fail
      obtain ⟨W, hW⟩ : ∃ W, W = wr.alloc (.cells #[.int .i64 ta, .int .i64 y] 34) := ⟨_, rfl⟩
      have TWW : Hid (Touch [] wr W) := by show Touch _ _ _; rw [hW]; exact (Touch.refl _ _).alloc _
      have kb : W.heap[wr.heap.size]? = some (.cells #[.int .i64 ta, .int .i64 y] 34 (0, 0)) := by rw [hW]; exact heap_alloc_new wr _
      have f1 : ∀ w', Touch [] W w' → w'.cell? ⟨g2, n, none⟩ = some (.int .i64 y) := fun w' t => by
        rw [World.cell?_of_block (show w'.heap[g2]? = wr.heap[g2]? from (TWW.out.trans' t).block g2 hgl (by simp))]; exact ac
      have f3 : ∀ w', Touch [] W w' → w'.frozen? ⟨g2, n, none⟩ = false := fun w' t => by
        rw [World.frozen?_of_block (show w'.heap[g2]? = wr.heap[g2]? from (TWW.out.trans' t).block g2 hgl (by simp))]; exact af
      have f2 : ∀ w', Touch [] W w' → w'.cell? ⟨wr.heap.size, 1, none⟩ = some (.int .i64 y) := fun w' t => by
        have := t.keep kb (by simp)
        simp [World.cell?, this]
      rw [← hW]
      clear hW kb ac af b0 b1
      go_region_held3 (fun w' => Touch [] W w') (first | assumption | exact (Touch.refl _ _).drew | exact Touch.refl _ _ | exact Touch.drew (by assumption))
        (first | (go_at_call 30; refine (HXn.out _ (TWW.out.trans' (by assumption))).mono ?_; rintro e w5 ⟨rfl, t5⟩; have K5 : Touch [] W w5 := Touch.trans' (by assumption) t5; clear t5))
      have d1 := f1 w5 K5
      have d3 := f3 w5 K5
      have HK5 := hid K5
      clear f1 f2 f3
      go_wp2
      go_roundw
      case rel => exact ⟨n + 1, by go_num, by omega, HK.out.step (TWW.out.trans' HK5.out)⟩
      case measure => simp [intOf]; omega
    · have zn : ¬ (n : Int) < (xs.length : Int) := by omega
      have TW : Hid (Touch [] w wr) := HK.out.choose_spec.2.2.2
      have HFw := hid (HFr.out wr TW.out)
      by_cases h0 : xs.length = 0
      · have hx : xs = [] := List.length_eq_zero_iff.1 h0
        have z0 : ((xs.length : Int) == 0) = true := by simp [h0]
        have e1 : decide (0 < xs.length) = false := by simp [h0]
        have e2 : xs.headD 0 = 0 := by rw [hx]; rfl
        rw [e1, e2] at HFw
        clear h0 hx e1 e2
        go_wp2_with (go_at_call 28; refine HFw.out.mono ?_; rintro e w6 ⟨rfl, rfl⟩)
        go_ret
        exact ⟨rfl, TW.out⟩
      · have z0 : ((xs.length : Int) == 0) = false := by simp; exact fun e => h0 (by rw [e]; rfl)
        have e1 : decide (0 < xs.length) = true := by simp; omega
        obtain ⟨g', eg, eN, b0, b1⟩ := (HR.out.keep0 TW.out).cells (k := 0) (by rw [HLn.out]; omega)
        clear eN
        simp only [Option.some.injEq, Addr.mk.injEq, and_true] at eg
        subst eg
        rw [map_it (by rw [HLn.out]; omega), HM.out] at b1
        have e2 : xs.headD 0 = xs.getD 0 0 := by cases xs with | nil => rfl | cons x r => rfl
        rw [e1, e2] at HFw
        have zp : (0 : Int) < (xs.length : Int) := by omega
        simp only [Nat.zero_mul, Nat.zero_add] at b1
        clear h0 e1 e2 b0
        generalize xs.getD 0 0 = y at *
        go_wp2_with (go_at_call 28; refine HFw.out.mono ?_; rintro e w6 ⟨rfl, rfl⟩)
        go_ret
        exact ⟨rfl, TW.out⟩
end Go.Proofs.Ytonkclllofbklaa
