/- The contracts of Drop and leave; no conditions but those that each states. -/
import Derived.Test.YtopepalpmkeffaaTou
namespace Go.Proofs.Ytopepalpmkeffaa
open Go.RowKit Go.Sort Go.Maps Go.ChangeMaps Go.WideMaps
set_option linter.unusedVariables false
set_option linter.unusedSimpArgs false
theorem drop18_no (w : World) (o : Nat) (m : Option Nat) (most : Int) (L : List E) (k : K) (hk : Ok k) (hn : ¬ k ∈ L.map Prod.fst) (h : Od w o m most L) : Calls Try.prog 53 #[PT o, kv k] w fun x w' => x = .returned (.bool false) ∧ Touch [] w w' := by
  have HH := hid (has19_no (w.alloc (bx k)) o m most L k hk hn (h.keep0 ((Touch.refl _ _).alloc _)))
  clear h
  unfold PT kv bx at *
  go_enter Try.func53, Try.ntmps53
  go_wp2_with (go_at_call 66; refine HH.out.mono ?_; rintro x w2 ⟨rfl, t2⟩)
  go_ret
  exact ⟨rfl, ((Touch.refl _ _).alloc _).trans' t2⟩
theorem Mf.pop {f : K → Option Value} {A B : List E} {e : E} (h : Mf f (A ++ e :: B)) (hn : ((A ++ e :: B).map Prod.fst).Nodup) : Mf (del f e.1) (A ++ B) := by
  obtain ⟨q1, q2, _, _⟩ := nd_mid hn
  refine ⟨fun e' he => ?_, fun j hj => ?_⟩
  · unfold del
    rw [List.mem_append] at he
    rw [if_neg (he.elim (q1 e') (q2 e'))]
    exact h.1 e' (by simp only [List.mem_append, List.mem_cons]; exact he.elim Or.inl (fun h => Or.inr (Or.inr h)))
  · unfold del
    by_cases ej : j = e.1
    · rw [if_pos ej]
    · rw [if_neg ej]
      refine h.2 j (fun h' => hj ?_)
      simp only [List.map_append, List.map_cons, List.mem_append, List.mem_cons] at h' ⊢
      rcases h' with h' | h' | h'
      · exact Or.inl h'
      · exact absurd h' ej
      · exact Or.inr h'
def DpQ (w : World) (o : Nat) (m : Option Nat) (most : Int) (A B : List E) (e : E) (w' : World) : Prop :=
  Od w' o m most (A ++ B) ∧ Touch (fp o m (A ++ e :: B)) w w'
theorem drop_end {w w3 : World} {o b : Nat} {most : Int} {A B : List E} {e : E} {f : K → Option Value} (h : Od w o (some b) most (A ++ e :: B)) (hm : MapAt w b (A ++ e :: B).length f) (hf : Mf f (A ++ e :: B)) (t : RmS w o (some b) most A B e w3) :
    MapAt w3 b (A ++ e :: B).length f ∧ ∀ ob, MapAt (setBlock w3.drew b ob) b (if (f e.1).isSome then (A ++ e :: B).length - 1 else (A ++ e :: B).length) (Ytopepalpmkeffaa.del f e.1) → DpQ w o (some b) most A B e (setBlock w3.drew b ob) := by
  obtain ⟨h3, t3, a, z, hn⟩ := t
  have hm3 := hm.kept (t3.block b hm.lt (mapAt_away h hm))
  refine ⟨hm3, fun ob hs => ?_⟩
  have hbl : ∀ q ∈ fpL o (A ++ B), q ≠ b := fun q hq => by
    obtain ⟨cs, t, fr, hc⟩ := h3.cells q hq
    exact Ne.symm (hm3.ne_block hc)
  refine ⟨⟨Ln.setMap (w := w3.drew) (h3.heap rfl) hbl ob, (nd_mid h.nd).2.2.1, fun e' he => h.ok e' ?_, Or.inr ⟨b, _, rfl, ?_, hf.pop h.nd⟩⟩, ?_⟩
  · simp only [List.mem_append, List.mem_cons] at he ⊢
    exact he.elim Or.inl (fun h => Or.inr (Or.inr h))
  · rw [hf.1 e (by simp)] at hs
    have : (A ++ B).length = (A ++ e :: B).length - 1 := by simp only [List.length_append, List.length_cons]; omega
    rw [this]
    exact hs
  · exact touch_setBlock ((t3.mono (fun i hi => fpL_fp hi)).drew) (Or.inl (by simp [fp])) ob
set_option maxHeartbeats 4000000 in
theorem drop18_yes (w : World) (o : Nat) (m : Option Nat) (most : Int) (A B : List E) (e : E) (h : Od w o m most (A ++ e :: B)) : Calls Try.prog 53 #[PT o, kv e.1] w fun x w' => x = .returned (.bool true) ∧ DpQ w o m most A B e w' := by
  obtain ⟨b, f, rfl, hm, hf⟩ : ∃ b f, m = some b ∧ MapAt w b (A ++ e :: B).length f ∧ Mf f (A ++ e :: B) := by
    rcases h.mp with ⟨_, e0⟩ | e0
    · simp at e0
    · exact e0
  have T0 : Touch [] w (w.alloc (bx e.1)) := (Touch.refl _ _).alloc _
  have HH := hid (has19_yes (w.alloc (bx e.1)) o (some b) most _ e (by simp) (h.keep0 T0))
  have HR : Hid (∀ w2, Touch [] w w2 → Calls Try.prog 67 #[LP o, PT e.2] w2 fun x w' => x = .returned (.tuple #[]) ∧ RmS w2 o (some b) most A B e w') := fun w2 t => rm w2 w2 o (some b) most A B e (h.keep0 t) (Touch.refl _ _)
  have HC : Hid (∀ w2, Touch [] w w2 → w2.cell? ⟨o, 1, none⟩ = some (.map (some b)) ∧ (Instr.lookup 124 (.map (some b)) (kv e.1) false).run Try.prog w2 = .ok (PT e.2) w2) := fun w2 t => ⟨(h.keep0 t).ln.oc.c1, (h.keep0 t).look_yes (by simp)⟩
  have HB := hid (box_cells w e.1)
  have HD : Hid (∀ w2 w3, Touch [] (w.alloc (bx e.1)) w2 → RmS w2.drew o (some b) most A B e w3 → w3.cell? ⟨o, 1, none⟩ = some (.map (some b)) ∧ w3.cell? ⟨w.heap.size, 0, none⟩ = some (.int .u16 e.1.1) ∧ w3.cell? ⟨w.heap.size, 1, none⟩ = some (.string e.1.2) ∧
      ∀ ty, ∃ ob, (Builtin.delete_ #[124, 39] ty #[.map (some b), kv e.1]).run Try.prog w3.drew = .ok (.tuple #[]) (setBlock w3.drew b ob) ∧ DpQ w o (some b) most A B e (setBlock w3.drew b ob)) := fun w2 w3 t2 r3 => by
    have T2 : Touch [] w w2.drew := (T0.trans' t2).drew
    have h2 := h.keep0 T2
    have hm2 := hm.kept (T2.block b hm.lt (by simp))
    have r3' := r3
    obtain ⟨h3, t3, a, z, hn⟩ := r3'
    have hbx : w3.heap[w.heap.size]? = some (bx e.1) := by
      have h1 := t2.keep (k := w.heap.size) (heap_alloc_new w (bx e.1)) (by simp)
      refine (t3.block _ ?_ (fun hh => ?_)).trans h1
      · exact block_lt (w := w2) h1
      · have := h.lt _ (fpL_fp hh)
        omega
    unfold bx at hbx
    refine ⟨h3.oc.c1, by simp [World.cell?, hbx], by simp [World.cell?, hbx], fun ty => ?_⟩
    obtain ⟨hm3, hD⟩ := drop_end h2 hm2 hf r3
    obtain ⟨ob, hu, hs⟩ := (show MapAt w3.drew b (A ++ e :: B).length f from hm3.kept rfl).del (t := 124) Try.underlying124 (h.ok e (by simp)) ty
    have := hD ob hs
    exact ⟨ob, hu, this.1, (T2.mono (fun _ e => by cases e)).trans' this.2⟩
  have hmx : Try.prog.follows .mixedOrders = true := by kernel_rfl
  clear h hm hf
  unfold PT kv LP bx at *
  go_enter Try.func53, Try.ntmps53
  go_wp2_with (go_at_call 66; refine HH.out.mono ?_; rintro x w2 ⟨rfl, t2⟩)
  have T2 := (T0.trans' t2).drew
  have c1 := (HC.out w2.drew T2).1
  have hl := (HC.out _ T2).2
  obtain ⟨b0, b1⟩ := HB.out w2.drew t2.drew
  go_region_with (go_at_call 67; refine (HR.out _ T2).mono ?_; rintro x w3 ⟨rfl, r3⟩; have R3 := hid r3; clear r3)
  all_goals
    obtain ⟨d1, d2, d3, d4⟩ := HD.out w2 w3 t2 R3.out
    obtain ⟨ob, hu, hd⟩ := d4 0
    have HQ := hid hd
    clear hd d4 c1 hl b0 b1
    generalize setBlock w3.drew b ob = W4 at *
    go_wp2
    go_region
    go_wp2
    go_ret
    exact ⟨rfl, HQ.out⟩
set_option maxHeartbeats 2000000 in
theorem leave31 (w : World) (o : Nat) (m : Option Nat) (most : Int) (x : E) (L : List E) (hl : L.length < 100000) (h : Od w o m most (x :: L)) : Calls Try.prog 73 #[PT o] w fun y w' => y = .returned (kv x.1) ∧ DpQ w o m most [] L x w' := by
  have HO : Hid (∀ w2, Touch [] w w2 → Calls Try.prog 78 #[PT o] w2 fun e w' => e = .returned (.tuple #[kv x.1, .bool true]) ∧ Touch [] w2 w') := fun w2 t => oldest16_cons w2 o m most x L hl (h.keep0 t)
  have HD : Hid (∀ w2, Touch [] w w2 → Calls Try.prog 53 #[PT o, kv x.1] w2 fun e w' => e = .returned (.bool true) ∧ DpQ w2 o m most [] L x w') := fun w2 t => drop18_yes w2 o m most [] L x (h.keep0 t)
  have HF : Hid (∀ k, k ∈ fp o m (x :: L) → k < w.heap.size) := h.lt
  clear h
  unfold PT kv at *
  go_enter Try.func73, Try.ntmps73
  go_wp2_with (go_at_call 78; refine (HO.out _ ((Touch.refl _ _).alloc _)).mono ?_; rintro y w2 ⟨rfl, t2⟩)
  have tw2 : Touch [] w w2 := ((Touch.refl _ _).alloc _).trans' t2
  refine (HD.out _ (tw2.alloc _)).mono ?_
  rintro y w3 ⟨rfl, r3⟩
  have hz2 := tw2.size
  have k1 : w3.heap[w2.heap.size]? = some (.cells #[.int .u16 x.1.1, .string x.1.2] 39 (0, 0)) := r3.2.keep (heap_alloc_new w2 _) (fun hh => by have := HF.out _ hh; omega)
  have k2 : w3.heap[w.heap.size]? = some (.cells #[.int .u16 0, .string ⟨#[]⟩] 39 (0, 0)) := by
    have h1 := t2.keep (k := w.heap.size) (heap_alloc_new w (.cells #[.int .u16 0, .string ⟨#[]⟩] 39)) (by simp)
    refine r3.2.keep ((Below.heap_alloc _ _ _ (block_lt h1)).trans h1) (fun hh => by have := HF.out _ hh; omega)
  have a0 : w3.cell? ⟨w2.heap.size, 0, none⟩ = some (.int .u16 x.1.1) := by simp [World.cell?, k1]
  have a1 : w3.cell? ⟨w2.heap.size, 1, none⟩ = some (.string x.1.2) := by simp [World.cell?, k1]
  have a2 : w3.cell? ⟨w.heap.size, 0, none⟩ = some (.int .u16 0) := by simp [World.cell?, k2]
  have a3 : w3.cell? ⟨w.heap.size, 1, none⟩ = some (.string ⟨#[]⟩) := by simp [World.cell?, k2]
  have a4 : ∀ i, w3.frozen? ⟨w.heap.size, i, none⟩ = false := fun i => by simp [World.frozen?, k2]
  have f0 := a4 0
  have f1 := a4 1
  have R : Hid (DpQ w o m most [] L x ((w3.setCell ⟨w.heap.size, 0, none⟩ (.int .u16 x.1.1)).setCell ⟨w.heap.size, 1, none⟩ (.string x.1.2))) := by
    have t5 : Touch [w.heap.size] w3 ((w3.setCell ⟨w.heap.size, 0, none⟩ (.int .u16 x.1.1)).setCell ⟨w.heap.size, 1, none⟩ (.string x.1.2)) := ((Touch.refl _ _).setCell (by simp) _).setCell (by simp) _
    refine ⟨r3.1.keep t5 (fun k hk hh => ?_), ((((tw2.alloc _).mono (fun _ e => by cases e)).trans' r3.2).trans t5 (fun i hi => by simp only [List.mem_singleton] at hi; subst hi; exact Or.inr (Nat.le_refl _)))⟩
    simp only [List.mem_singleton] at hh
    subst hh
    have : w.heap.size ∈ fp o m (x :: L) := by
      simp only [fp, List.nil_append, List.mem_cons, List.mem_append, List.map_cons] at hk ⊢
      rcases hk with hk | hk | hk
      · exact Or.inl hk
      · exact Or.inr (Or.inl hk)
      · exact Or.inr (Or.inr (Or.inr hk))
    have := HF.out _ this
    omega
  clear r3 k1 k2 a4 t2 tw2
  go_wp2
  refine bodyPost_ret (v := .agg #[.int .u16 x.1.1, .string x.1.2]) (by simp [results, Try.results73, go_sem, a2, a3]) rfl ⟨rfl, ?_⟩
  exact R.out
end Go.Proofs.Ytopepalpmkeffaa
