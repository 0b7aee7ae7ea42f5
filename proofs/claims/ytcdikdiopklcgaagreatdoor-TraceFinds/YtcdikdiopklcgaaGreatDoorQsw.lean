/- A row of keys that is sorted in place, and the contract of the library's exchange of two ranges; no conditions but that the indices are within the row. -/
import Derived.Test.YtcdikdiopklcgaaGreatDoorQba
import Derived.BigRegion
namespace Go.Proofs.YtcdikdiopklcgaaGreatDoor.So
open Go.RowKit Go.Sort Go.Shelf Me
set_option linter.unusedVariables false

structure RW (w0 : World) (g n c : Nat) (L : List K) (w : World) : Prop where
  own : w.ownsRow 0 26 2 (.slice (some ⟨g, 0, none⟩) n c) n (Me.cellsK L)
  len : L.length = n
  fr : w0.grownBy w (some g)
  lt : g < w0.heap.size
theorem RW.lt' {w0 w : World} {g n c : Nat} {L : List K} (h : RW w0 g n c L w) : g < w.heap.size := Nat.lt_of_lt_of_le h.lt h.fr.size
theorem gr_grown {w w' : World} (h : Gr w w') (r : Option Nat) : w.grownBy w' r := by
  have b := h.below
  exact ⟨b.os, b.tape, b.output, b.size, fun k hk _ => b.block k hk⟩
theorem grown_trans {a b c : World} {r : Option Nat} (h : a.grownBy b r) (k : b.grownBy c r) : a.grownBy c r :=
  ⟨k.os.trans h.os, k.tape.trans h.tape, k.output.trans h.output, Nat.le_trans h.size k.size, fun i hi hr => (k.block i (Nat.lt_of_lt_of_le hi h.size) hr).trans (h.block i hi hr)⟩
theorem RW.gr {w0 w w' : World} {g n c : Nat} {L : List K} (h : RW w0 g n c L w) (hg : Gr w w') : RW w0 g n c L w' :=
  ⟨owns_below h.own hg.below, h.len, grown_trans h.fr (gr_grown hg _), h.lt⟩
theorem RW.at {w0 w : World} {g n c : Nat} {L : List K} (h : RW w0 g n c L w) (i : Nat) (hi : i < L.length) :
    w.cell? ⟨g, i * 2, none⟩ = some (.int .u16 L[i].1) ∧ w.cell? ⟨g, i * 2 + 1, none⟩ = some (.string L[i].2) ∧ w.frozen? ⟨g, i * 2, none⟩ = false ∧ w.frozen? ⟨g, i * 2 + 1, none⟩ = false := by
  have ho := h.own
  rw [← h.len] at ho
  exact owns_at ho i hi
theorem RW.set {w0 w : World} {g n c : Nat} {L : List K} (h : RW w0 g n c L w) (i : Nat) (hi : i < L.length) (x : K) :
    RW w0 g n c (L.set i x) ((w.setCell ⟨g, i * 2, none⟩ (.int .u16 x.1)).setCell ⟨g, i * 2 + 1, none⟩ (.string x.2)) := by
  have ho := h.own
  rw [← h.len] at ho
  have := owns_set ho i hi x.1 x.2
  rw [List.length_set, h.len] at this
  refine ⟨this, by rw [List.length_set]; exact h.len, grown_trans h.fr ?_, h.lt⟩
  exact ⟨rfl, rfl, rfl, by simp [World.setCell], fun k _ hk => (Below.heap_setCell _ _ _ _ (fun e => hk (by rw [e]))).trans (Below.heap_setCell _ _ _ _ (fun e => hk (by rw [e])))⟩
def swL (L : List K) (i j : Nat) (hi : i < L.length) (hj : j < L.length) : List K := (L.set i L[j]).set j L[i]
theorem swL_len (L : List K) (i j : Nat) (hi : i < L.length) (hj : j < L.length) : (swL L i j hi hj).length = L.length := by unfold swL; simp
theorem swL_at (L : List K) (i j : Nat) (hi : i < L.length) (hj : j < L.length) (m : Nat) (hm : m < L.length) : (swL L i j hi hj)[m]'(by rw [swL_len]; exact hm) = if m = j then L[i] else if m = i then L[j] else L[m] := by
  unfold swL
  rw [List.getElem_set]
  by_cases h : j = m
  · rw [if_pos h, if_pos h.symm]
  · rw [if_neg h, if_neg (fun e => h e.symm), List.getElem_set]
    by_cases h' : i = m
    · rw [if_pos h', if_pos h'.symm]
    · rw [if_neg h', if_neg (fun e => h' e.symm)]
theorem RW.swap {w0 w : World} {g n c : Nat} {L : List K} (h : RW w0 g n c L w) (i j : Nat) (hi : i < L.length) (hj : j < L.length) :
    RW w0 g n c (swL L i j hi hj) ((((w.setCell ⟨g, i * 2, none⟩ (.int .u16 L[j].1)).setCell ⟨g, i * 2 + 1, none⟩ (.string L[j].2)).setCell ⟨g, j * 2, none⟩ (.int .u16 L[i].1)).setCell ⟨g, j * 2 + 1, none⟩ (.string L[i].2)) :=
  (h.set i hi L[j]).set j (by rw [List.length_set]; exact hj) L[i]

theorem swL_at? (L : List K) (i j : Nat) (hi : i < L.length) (hj : j < L.length) (m : Nat) : (swL L i j hi hj)[m]? = if m = j then L[i]? else if m = i then L[j]? else L[m]? := by
  by_cases hm : m < L.length
  · rw [List.getElem?_eq_getElem (by rw [swL_len]; exact hm), swL_at L i j hi hj m hm]
    by_cases h1 : m = j
    · rw [if_pos h1, if_pos h1, List.getElem?_eq_getElem hi]
    · rw [if_neg h1, if_neg h1]
      by_cases h2 : m = i
      · rw [if_pos h2, if_pos h2, List.getElem?_eq_getElem hj]
      · rw [if_neg h2, if_neg h2, List.getElem?_eq_getElem hm]
  · rw [List.getElem?_eq_none (by rw [swL_len]; omega), if_neg (by omega), if_neg (by omega), List.getElem?_eq_none (by omega)]
theorem swL_perm (L : List K) (i j : Nat) (hi : i < L.length) (hj : j < L.length) : (swL L i j hi hj).Perm L := by
  unfold swL
  by_cases e : i = j
  · subst e
    simp
  · exact (List.set_set_perm hi hj)

def cmpF : Value := .func (.func 49) #[] #[]
def SwapR (L : List K) (a b m : Nat) (L' : List K) : Prop := L'.Perm L ∧ ∀ t, L'[t]? = if a ≤ t ∧ t < a + m then L[b + (t - a)]? else if b ≤ t ∧ t < b + m then L[a + (t - b)]? else L[t]?
theorem swapR_zero (L : List K) (a b : Nat) : SwapR L a b 0 L := ⟨List.Perm.refl _, fun t => by rw [if_neg (by omega), if_neg (by omega)]⟩
theorem swapR_step (L Y : List K) (a b i : Nat) (h : SwapR L a b i Y) (hd : a + i < b) (h1 : a + i < Y.length) (h2 : b + i < Y.length) : SwapR L a b (i + 1) (swL Y (a + i) (b + i) h1 h2) := by
  refine ⟨(swL_perm _ _ _ _ _).trans h.1, fun t => ?_⟩
  rw [swL_at?, h.2, h.2, h.2]
  by_cases c1 : t = b + i
  · subst c1
    rw [if_pos rfl, if_neg (by omega), if_neg (by omega), if_neg (by omega), if_pos (by omega), show b + i - b = i by omega]
  · rw [if_neg c1]
    by_cases c2 : t = a + i
    · subst c2
      rw [if_pos rfl, if_neg (by omega), if_neg (by omega), if_pos (by omega), show a + i - a = i by omega]
    · rw [if_neg c2]
      by_cases c3 : a ≤ t ∧ t < a + i
      · rw [if_pos c3, if_pos (by omega)]
      · rw [if_neg c3]
        by_cases c4 : b ≤ t ∧ t < b + i
        · rw [if_pos c4, if_neg (by omega), if_pos (by omega)]
        · rw [if_neg c4, if_neg (by omega), if_neg (by omega)]

set_option maxHeartbeats 2000000 in
theorem swap64 (w0 : World) (g n c : Nat) (L : List K) (a b m : Nat) (hd : a + m ≤ b) (hb : b + m ≤ n) (w : World) (hn : n ≤ 5864062014634) (R : RW w0 g n c L w) :
    Calls Tryz.prog 127 #[.slice (some ⟨g, 0, none⟩) n c, .int .i64 a, .int .i64 b, .int .i64 m, cmpF] w fun e w' => e = .returned (.tuple #[]) ∧ ∃ L', SwapR L a b m L' ∧ RW w0 g n c L' w' := by
  unfold cmpF
  have HR : Hid (RW w0 g n c L w) := R
  clear R
  go_enter Tryz.func127, Tryz.ntmps127
  go_wp2
  go_loopw [10] (fun i wr => ∃ (k : Nat) (Y : List K), i = .int .i64 k ∧ k ≤ m ∧ Hid (SwapR L a b k Y) ∧ Hid (RW w0 g n c Y wr)) (fun i _ => m - (intOf i).toNat)
  case atStart => exact ⟨0, L, rfl, Nat.zero_le _, swapR_zero L a b, HR⟩
  case round =>
    obtain ⟨k, Y, rfl, hk, HS, HW⟩ := hrel
    by_cases hlt : k < m
    · have kz : (k : Int) < (m : Int) := by omega
      have hY := HW.out.len
      have h1 : a + k < Y.length := by omega
      have h2 : b + k < Y.length := by omega
      have HN : Hid _ := swapR_step L Y a b k HS.out (by omega) h1 h2
      have HX : Hid _ := HW.out.swap (a + k) (b + k) h1 h2
      obtain ⟨a0, a1, a2, a3⟩ := HW.out.at (a + k) h1
      obtain ⟨b0, b1, b2, b3⟩ := HW.out.at (b + k) h2
      have HL : Hid _ := (swL_len Y (a + k) (b + k) h1 h2)
      generalize swL Y (a + k) (b + k) h1 h2 = Y' at *
      generalize Y[a + k].1 = x1 at *
      generalize Y[a + k].2 = x2 at *
      generalize Y[b + k].1 = y1 at *
      generalize Y[b + k].2 = y2 at *
      obtain ⟨p, hp⟩ : ∃ p, p = a + k := ⟨_, rfl⟩
      obtain ⟨q, hq⟩ : ∃ q, q = b + k := ⟨_, rfl⟩
      have e1 : (a : Int) + (k : Int) = (p : Int) := by omega
      have e2 : (b : Int) + (k : Int) = (q : Int) := by omega
      rw [← hp] at a0 a1 a2 a3 HX
      rw [← hq] at b0 b1 b2 b3 HX
      have pz : (p : Int) < (n : Int) := by omega
      have qz : (q : Int) < (n : Int) := by omega
      have pz0 : (0 : Int) ≤ (p : Int) := by omega
      have qz0 : (0 : Int) ≤ (q : Int) := by omega
      have hpq : p < q := by omega
      have wp : IntKind.i64.wrap (p : Int) = (p : Int) := by rw [IntKind.wrap_i64]; omega
      have wq : IntKind.i64.wrap (q : Int) = (q : Int) := by rw [IntKind.wrap_i64]; omega
      clear hY h1 h2 hp hq
      go_wp2
      go_region
      all_goals go_wp2
      all_goals go_roundw
      case rel => exact ⟨k + 1, Y', by go_num, by omega, HN, HX.out.gr ((Gr.refl _).drew)⟩
      case measure => simp [intOf]; omega
    · have kz : ¬ (k : Int) < (m : Int) := by omega
      obtain rfl : k = m := by omega
      go_wp2
      go_end0
      exact ⟨rfl, Y, HS.out, HW.out⟩
end Go.Proofs.YtcdikdiopklcgaaGreatDoor.So
