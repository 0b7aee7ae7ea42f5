/- What is done to both, an order and the document's, whichever of the five it is, and what holds between two of them; there are at most 65536 keys. -/
import Derived.Test.YtjcdloijodfpgaaOnv
import Derived.Test.YtjcdloijodfpgaaSay
import Derived.Test.YtjcdloijodfpgaaRtc
namespace Go.Proofs.Ytjcdloijodfpgaa
open Go.RowKit Go.Sort Go.Maps Go.ChangeMaps Go.WideMaps
set_option linter.unusedVariables false
theorem useL_len' {most : Int} {xs : List K} {k : K} (h0 : 0 ≤ most) (h : (xs.length : Int) ≤ most) : ((useL most xs k).length : Int) ≤ most := by
  have h1 : (useY xs k).length ≤ xs.length + 1 := by
    unfold useY
    have := dr_le xs k
    simp only [List.length_append, List.length_singleton]
    omega
  unfold useL
  by_cases hb : useB most xs k = true
  · rw [if_pos hb, List.length_tail]
    omega
  · rw [if_neg hb]
    unfold useB at hb
    simp only [decide_eq_true_eq] at hb
    omega
theorem hs_mem {xs : List K} {k : K} (h : hs xs k = true) : k ∈ xs := by
  unfold hs at h
  simpa using h
/-- Between two acts: the order at o and the document's in box b tell the same keys. -/
structure PlT (w : World) (o b : Nat) (most : Int) (xs : List K) (a : Option Addr) (n c : Nat) (wr : World) : Prop where
  oq : ∃ F, Oq wr o F most xs ∧ ∀ k ∈ F, w.heap.size ≤ k
  bx : wr.heap[b]? = some (.cells #[.int .i64 most, .slice a n c] 31 (0, 0))
  rk : RK wr (.slice a n c) xs
  m0 : 0 ≤ most
  m1 : most ≤ 65536
  lx : (xs.length : Int) ≤ most
  t : Touch [] w wr
  hb : w.heap.size ≤ b
def PlQ (w : World) (o b : Nat) (wr : World) : Prop := ∃ most xs a n c, PlT w o b most xs a n c wr
theorem PlT.keep {w wr wr' : World} {o b : Nat} {most : Int} {xs : List K} {a : Option Addr} {n c : Nat} (h : PlT w o b most xs a n c wr) (t : Touch [] wr wr') : PlT w o b most xs a n c wr' := by
  obtain ⟨⟨F, f1, f2⟩, bx, rk, m0, m1, lx, t0, hb⟩ := h
  exact ⟨⟨F, f1.keep0 t, f2⟩, t.keep bx (by simp), rk.keep t, m0, m1, lx, t0.trans' t, hb⟩
theorem PlT.cells {w wr : World} {o b : Nat} {most : Int} {xs : List K} {a : Option Addr} {n c : Nat} (h : PlT w o b most xs a n c wr) : wr.cell? ⟨b, 0, none⟩ = some (.int .i64 most) ∧ wr.cell? ⟨b, 1, none⟩ = some (.slice a n c) := by
  have := h.bx
  exact ⟨by simp [World.cell?, this], by simp [World.cell?, this]⟩
theorem PlT.says {w wr : World} {o b : Nat} {most : Int} {xs : List K} {a : Option Addr} {n c : Nat} (h : PlT w o b most xs a n c wr) (k : K) (hk : Ok k) :
    Calls Try.prog 10 #[PT o, rv most (.slice a n c), kv k] wr fun e w' => e = .returned (.bool true) ∧ Touch [] wr w' := by
  obtain ⟨⟨F, f1, f2⟩, bx, rk, m0, m1, lx, t0, hb⟩ := h
  exact saysO wr o F most _ k xs (by omega) hk f1 rk
theorem oneO (w : World) (o : Nat) (F : List Nat) (most kd nn : Int) (v : Value) (xs : List K) (k : K) (hk : Ok k) (h0 : 0 ≤ most) (h1 : most ≤ 65536) (hx : (xs.length : Int) ≤ most) (h : Oq w o F most xs) (hr : RK w v xs) :
    Calls Try.prog 9 #[PT o, rv most v, av kd nn k] w fun e w' => ∃ o' most' ys v', e = .returned (.tuple #[PT o', rv most' v', .bool true]) ∧ 0 ≤ most' ∧ most' ≤ 65536 ∧ (ys.length : Int) ≤ most' ∧ OnQ w o' F most' ys v' w' := by
  have hl : xs.length ≤ 70000 := by omega
  have hd := dr_le xs k
  by_cases e0 : kd = 0
  · subst e0
    refine (one_use w o F most nn v xs k hk hl h hr).mono ?_
    rintro e w' ⟨v', rfl, q⟩
    refine ⟨o, most, _, v', rfl, h0, h1, ?_, q⟩
    unfold uL
    split
    · exact useL_len' h0 hx
    · exact hx
  by_cases e1 : kd = 1
  · subst e1
    refine (one_touch w o F most nn v xs k hk hl h hr).mono ?_
    rintro e w' ⟨v', rfl, q⟩
    refine ⟨o, most, _, v', rfl, h0, h1, ?_, q⟩
    split
    · rename_i hh
      have := dr_lt (hs_mem hh)
      simp only [List.length_append, List.length_singleton]
      omega
    · exact hx
  by_cases e2 : kd = 2
  · subst e2
    refine (one_drop w o F most nn v xs k hk hl h hr).mono ?_
    rintro e w' ⟨v', rfl, q⟩
    exact ⟨o, most, _, v', rfl, h0, h1, by omega, q⟩
  by_cases e3 : kd = 3
  · subst e3
    refine (one_shrink w o F most nn v xs k hl h hr).mono ?_
    rintro e w' ⟨v', rfl, q⟩
    refine ⟨o, _, _, v', rfl, ?_, ?_, ?_, q⟩
    · unfold shM
      split
      · rename_i hg
        exact (gd_iff.1 hg).1
      · exact h0
    · unfold shM
      split
      · rename_i hg
        exact (gd_iff.1 hg).2
      · exact h1
    · unfold shM shX
      split
      · rename_i hg
        have := (gd_iff.1 hg).1
        rw [List.length_drop]
        unfold ovr
        omega
      · exact hx
  · refine (one_clone w o F most kd nn v xs k hl e0 e1 e2 e3 h hr).mono ?_
    rintro e w' ⟨p, rfl, q⟩
    exact ⟨p, most, xs, v, rfl, h0, h1, hx, q⟩
theorem PlT.one {w wr : World} {o b : Nat} {most : Int} {xs : List K} {a : Option Addr} {n c : Nat} (h : PlT w o b most xs a n c wr) (kd nn : Int) (k : K) (hk : Ok k) :
    Calls Try.prog 9 #[PT o, rv most (.slice a n c), av kd nn k] wr fun e w' => ∃ o' m' a' n' c', e = .returned (.tuple #[PT o', rv m' (.slice a' n' c'), .bool true]) ∧ w'.heap[b]? = some (.cells #[.int .i64 most, .slice a n c] 31 (0, 0)) ∧ PlQ w o' b ((w'.setCell ⟨b, 0, none⟩ (.int .i64 m')).setCell ⟨b, 1, none⟩ (.slice a' n' c')) := by
  obtain ⟨⟨F, f1, f2⟩, bx, rk, m0, m1, lx, t0, hb⟩ := h
  refine (oneO wr o F most kd nn _ xs k hk m0 m1 lx f1 rk).mono ?_
  rintro e w' ⟨o', m', ys, v', rfl, q0, q1, q2, F', c1, c2, c3, c4⟩
  obtain ⟨a', c', rfl⟩ := own_form c2
  have hbF : ¬ b ∈ F := f1.away bx (by decide) (by decide)
  have rb := c3.keep bx hbF
  have tb : Touch [b] w' ((w'.setCell ⟨b, 0, none⟩ (.int .i64 m')).setCell ⟨b, 1, none⟩ (.slice a' ys.length c')) := ((Touch.refl _ _).setCell (by simp) _).setCell (by simp) _
  have hbF' : ¬ b ∈ F' := c1.away rb (by decide) (by decide)
  refine ⟨o', m', a', _, c', rfl, rb, m', ys, a', _, c', ⟨F', c1.keep tb (fun k hk hh => by simp only [List.mem_singleton] at hh; exact hbF' (hh ▸ hk)), fun k hk => (c4 k hk).elim (f2 k) (fun e => Nat.le_trans t0.size e)⟩, bset (bset rb _) _, own_touch c2 tb (fun g hg hh => ?_), q0, q1, q2, (t0.trans c3 (fun i hi => Or.inr (f2 i hi))).trans tb (fun i hi => by simp only [List.mem_singleton] at hi; subst hi; exact Or.inr hb), hb⟩
  obtain ⟨cs, hcs⟩ := own_type c2 hg
  simp only [List.mem_singleton] at hh
  rw [hh, rb] at hcs
  simp at hcs
end Go.Proofs.Ytjcdloijodfpgaa
