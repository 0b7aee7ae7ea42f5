/- The contract of the program's sorted list of keys: the same keys in order; the list has at most 70000. -/
import Derived.Test.YtcdikdiopklcgaaGreatDoorQst
namespace Go.Proofs.YtcdikdiopklcgaaGreatDoor.So
open Go.RowKit Go.Sort Go.Shelf Me
set_option linter.unusedVariables false
theorem ins51_nil (v F : Value) (w : World) : Calls Tryz.prog 97 #[v, .int .i64 0, .int .i64 0, F] w fun e w' => e = .returned (.tuple #[]) ∧ w' = w := by
  go_enter Tryz.func97, Tryz.ntmps97
  go_wp2
  go_loopw [8] (fun x wr => x = .int .i64 1 ∧ wr = w) (fun _ _ => 0)
  case atStart => exact ⟨rfl, rfl⟩
  case round =>
    obtain ⟨rfl, rfl⟩ := hrel
    go_wp2
    go_end0
    exact ⟨rfl, rfl⟩
theorem stable47_nil (v F : Value) (w : World) : Calls Tryz.prog 78 #[v, .int .i64 0, F] w fun e w' => e = .returned (.tuple #[]) ∧ w' = w := by
  go_enter Tryz.func78, Tryz.ntmps78
  go_wp2
  go_loopw [7, 8] (fun x y wr => x = .int .i64 0 ∧ y = .int .i64 20 ∧ wr = w) (fun _ _ _ => 0)
  case atStart => exact ⟨rfl, rfl, rfl⟩
  case round =>
    obtain ⟨rfl, rfl, hwr⟩ := hrel
    rw [hwr]
    clear hwr
    go_wp2_with fail
    refine Calls.mono (ins51_nil _ _ _) ?_
    rintro e w1 ⟨rfl, hw1⟩
    obtain ⟨wo, hwo⟩ : ∃ wo, wo = w := ⟨_, rfl⟩
    go_wp2
    go_loopw [6] (fun x wr => x = .int .i64 20 ∧ wr = wo) (fun _ _ => 0)
    case atStart => exact ⟨rfl, hwo.symm⟩
    case round =>
      obtain ⟨rfl, hr⟩ := hrel
      go_wp2
      go_end0
      exact ⟨rfl, rfl⟩
theorem sort40_nil (a : Option Addr) (cap : Nat) (w : World) : Calls Tryz.prog 48 #[.slice a 0 cap, cmpF] w fun e w' => e = .returned (.tuple #[]) ∧ w' = w := by
  have hc : ∃ F, F = cmpF := ⟨_, rfl⟩
  obtain ⟨F, hF⟩ := hc
  rw [← hF]
  clear hF
  go_enter Tryz.func48, Tryz.ntmps48
  go_wp2_with fail
  refine Calls.mono (stable47_nil _ _ _) ?_
  rintro e w1 ⟨rfl, rfl⟩
  go_wp2
  go_end0
  exact ⟨rfl, rfl⟩
theorem sort40 (w0 : World) (g n c : Nat) (L : List K) (w : World) (hn : n ≤ 5864062014634) (R : RW w0 g n c L w) :
    Calls Tryz.prog 48 #[.slice (some ⟨g, 0, none⟩) n c, cmpF] w fun e w' => e = .returned (.tuple #[]) ∧ ∃ L', L'.Perm L ∧ SIn L' 0 n ∧ RW w0 g n c L' w' := by
  have HS : Hid _ := stable47 w0 g n c L w hn R
  have hc : ∃ F, F = cmpF := ⟨_, rfl⟩
  obtain ⟨F, hF⟩ := hc
  rw [← hF] at HS ⊢
  clear hF R
  go_enter Tryz.func48, Tryz.ntmps48
  go_wp2_with fail
  refine Calls.mono HS.out ?_
  rintro e w1 ⟨rfl, L', hp, hs, hw⟩
  have HE : Hid _ := (⟨hp, hs, hw⟩ : L'.Perm L ∧ SIn L' 0 n ∧ RW w0 g n c L' w1)
  clear hp hs hw
  go_wp2
  go_end0
  exact ⟨rfl, L', HE.out.1, HE.out.2.1, HE.out.2.2⟩
theorem infoAz : (Tryz.prog.info? 26).map (fun i => (i.zero, i.size, i.bytes)) = some (some (.agg #[.int .u16 0, .string ⟨#[]⟩]), 2, 24) := by kernel_rfl
theorem cellsK_one' (xs : List K) : ∀ u ∈ Me.cellsK xs, u.oneCell' = true := by
  intro u hu
  unfold Me.cellsK at hu
  simp only [List.mem_flatMap, List.mem_cons, List.not_mem_nil, or_false] at hu
  obtain ⟨x, _, rfl | rfl⟩ := hu <;> rfl
/-- What sorting leaves: the same keys in order, a row of the call's own. -/
def KsQ (w : World) (xs : List K) (e : Ending) (w' : World) : Prop := ∃ v ys, e = .returned v ∧ ys.Perm xs ∧ ys.Pairwise leK ∧ w'.ownsRow w.heap.size 26 2 v ys.length (Me.cellsK ys) ∧ Touch [] w w'
theorem sorted_ (xs : List K) (w : World) (v : Value) (hl : xs.length ≤ 2000000) (hv : Rs 26 2 w v xs.length (Me.cellsK xs)) :
    Calls Tryz.prog 37 #[v] w fun e w' => KsQ w xs e w' := by
  obtain ⟨a, c, ev, _⟩ := hv.form
  subst ev
  have HV := hid hv
  have HL := hid hl
  clear hv hl
  obtain ⟨n, hn⟩ : ∃ n, n = xs.length := ⟨_, rfl⟩
  rw [← hn]
  have HN := hid hn
  clear hn
  have HE0 : Hid (w.ownsRow w.heap.size 26 2 (.slice none 0 0) 0 []) := hid ⟨rfl, Or.inl ⟨rfl, rfl⟩⟩
  go_enter Tryz.func37, Tryz.ntmps37
  go_wp2_with (at_builtin; refine wpList_append_rs rfl _ _ 56 26 rfl _ 2 24 infoAz Tryz.underlying56 rfl (by decide) w.heap.size (.slice none 0 0) 0 [] rfl HE0.out (.slice a n c) n (Me.cellsK xs) rfl (by rw [HN.out]; exact HV.out) (cellsK_one' xs) (by unfold maxLen; have := HN.out; have := HL.out; omega) (by have := HN.out; have := HL.out; omega) (Nat.le_refl _) ?_; intro v6 w6 o6 g6 _; obtain ⟨a6, c6, e6, _⟩ := (Rs.of_own o6).form; subst e6; have O6 := hid o6; have T6 := hid (touch_grown (Touch.refl [] w) g6 HE0.out (Nat.le_refl _)); clear o6 g6)
  have O7 : Hid (w6.ownsRow w.heap.size 26 2 (.slice a6 n c6) n (Me.cellsK xs)) := hid (by have := O6.out; simpa using this)
  have e0 : 0 + n = n := by omega
  clear O6
  by_cases hp : 0 < n
  · obtain ⟨g, c', e, hg, hlt⟩ := own_some O7.out hp
    cases e
    have R1 : Hid (RW w6 g n c6 xs w6) := hid ⟨own_base O7.out (Nat.zero_le _), HN.out.symm, gr_grown (Gr.refl _) _, hlt⟩
    have HG := hid hg
    clear hg hlt
    go_wp2_with fail
    refine Calls.mono (sort40 w6 g n c6 xs w6 (by have := HN.out; have := HL.out; omega) R1.out) ?_
    rintro e w2 ⟨rfl, L', hq, hs, hw⟩
    have HE : Hid (KsQ w xs (.returned (.slice (some ⟨g, 0, none⟩) n c6)) w2) := hid (by
      have hlen := hw.len
      refine ⟨_, L', rfl, hq, sorted_of_sin L' (by rw [hlen]; exact hs), ?_, ?_⟩
      · have ho := hw.own
        rw [hlen]
        obtain ⟨h1, h2 | ⟨g', cap, cur, hv, hg', r⟩⟩ := ho
        · cases h2.1
        · cases hv
          exact ⟨h1, Or.inr ⟨g, c6, cur, rfl, HG.out, r⟩⟩
      · exact T6.out.grown hw.fr (fun k e => by cases e; exact Or.inr HG.out))
    clear hq hs hw
    go_wp2
    go_ret
    exact HE.out
  · obtain rfl : n = 0 := by omega
    go_wp2_with fail
    refine Calls.mono (sort40_nil a6 c6 _) ?_
    rintro e w2 ⟨rfl, rfl⟩
    go_wp2
    go_ret
    have hx : xs = [] := List.length_eq_zero_iff.1 HN.out.symm
    subst hx
    exact ⟨_, [], rfl, List.Perm.refl _, List.Pairwise.nil, O7.out, T6.out⟩
end Go.Proofs.YtcdikdiopklcgaaGreatDoor.So
