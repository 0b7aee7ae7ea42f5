/- A line of places in memory as a plain list: what lies where, a place put behind all others, a place taken out; no conditions but those that each states. -/
import Derived.Test.YtpefbmheblfbeaaGreatQc01
import Derived.Deep.AppendLies
import Derived.Deep.QuietTactic
import Derived.Deep.RegionHeld3
import Derived.Deep.RegionWith
import Derived.Lib.QuietBelow
import Derived.OwnWalk
import Derived.OrdersHeld
import Derived.StillTail
import Derived.Deep.RegionHeld
namespace Go.Proofs.YtpefbmheblfbeaaGreat.Me
open Go.RowKit Go.Sort Go.Maps Go.ChangeMaps Go.WideMaps
set_option maxRecDepth 100000
set_option linter.unusedVariables false
set_option linter.unusedSimpArgs false
def PP (p : Option Nat) : Value := .pointer (p.map fun q => ⟨q, 0, none⟩)
def LP (o : Nat) : Value := .pointer (some ⟨o, 2, none⟩)
def Nd (w : World) (p : Nat) (k : K) (a z : Option Nat) : Prop := w.heap[p]? = some (.cells #[.int .u16 k.1, .string k.2, PP a, PP z] 220 (0, 0))
section
variable {w : World} {p : Nat} {k : K} {a z : Option Nat}
theorem Nd.c0 (h : Nd w p k a z) : w.cell? ⟨p, 0, none⟩ = some (.int .u16 k.1) := by unfold Nd at h; simp [World.cell?, h]
theorem Nd.c1 (h : Nd w p k a z) : w.cell? ⟨p, 1, none⟩ = some (.string k.2) := by unfold Nd at h; simp [World.cell?, h]
theorem Nd.c2 (h : Nd w p k a z) : w.cell? ⟨p, 2, none⟩ = some (PP a) := by unfold Nd at h; simp [World.cell?, h]
theorem Nd.c3 (h : Nd w p k a z) : w.cell? ⟨p, 3, none⟩ = some (PP z) := by unfold Nd at h; simp [World.cell?, h]
theorem Nd.fr (h : Nd w p k a z) (i : Nat) : w.frozen? ⟨p, i, none⟩ = false := by unfold Nd at h; simp [World.frozen?, h]
theorem Nd.lt (h : Nd w p k a z) : p < w.heap.size := block_lt h
theorem Nd.set2 (h : Nd w p k a z) (x : Option Nat) : Nd (w.setCell ⟨p, 2, none⟩ (PP x)) p k x z := bset h _
theorem Nd.set3 (h : Nd w p k a z) (x : Option Nat) : Nd (w.setCell ⟨p, 3, none⟩ (PP x)) p k a x := bset h _
theorem Nd.keep {w' : World} (h : Nd w p k a z) (hk : w'.heap[p]? = w.heap[p]?) : Nd w' p k a z := hk.trans h
end
abbrev E := K × Nat
def hd : List E → Option Nat → Option Nat
  | [], z => z
  | e :: _, _ => some e.2
def lst : List E → Option Nat → Option Nat
  | [], a => a
  | e :: l, _ => lst l (some e.2)
def Seg (w : World) : Option Nat → List E → Option Nat → Prop
  | _, [], _ => True
  | a, e :: l, z => Nd w e.2 e.1 a (hd l z) ∧ Seg w (some e.2) l z
theorem hd_append (A B : List E) (z : Option Nat) : hd (A ++ B) z = hd A (hd B z) := by cases A <;> rfl
theorem lst_append : ∀ (A B : List E) (a : Option Nat), lst (A ++ B) a = lst B (lst A a)
  | [], B, a => rfl
  | e :: A, B, a => by simp only [List.cons_append, lst]; exact lst_append A B _
theorem lst_snoc (A : List E) (e : E) (a : Option Nat) : lst (A ++ [e]) a = some e.2 := by rw [lst_append]; rfl
theorem seg_append {w : World} : ∀ (A B : List E) (a z : Option Nat), Seg w a (A ++ B) z ↔ Seg w a A (hd B z) ∧ Seg w (lst A a) B z
  | [], B, a, z => by simp [Seg, lst]
  | e :: A, B, a, z => by
    simp only [List.cons_append, Seg, lst, hd_append]
    rw [seg_append A B (some e.2) z]
    exact ⟨fun h => ⟨⟨h.1, h.2.1⟩, h.2.2⟩, fun h => ⟨h.1.1, h.1.2, h.2⟩⟩
theorem Seg.keep {w w' : World} : ∀ {L : List E} {a z : Option Nat}, Seg w a L z → (∀ e ∈ L, w'.heap[e.2]? = w.heap[e.2]?) → Seg w' a L z
  | [], _, _, _, _ => trivial
  | e :: l, a, z, h, hk => ⟨h.1.keep (hk e (by simp)), Seg.keep h.2 (fun e' he => hk e' (by simp [he]))⟩
theorem Seg.mem {w : World} : ∀ {L : List E} {a z : Option Nat}, Seg w a L z → ∀ e ∈ L, ∃ x y, Nd w e.2 e.1 x y
  | [], _, _, _, e, he => by cases he
  | e :: l, a, z, h, e', he => by
    rcases List.mem_cons.1 he with rfl | he
    · exact ⟨_, _, h.1⟩
    · exact Seg.mem h.2 e' he
theorem Seg.next {w : World} {A : List E} {e : E} {a z : Option Nat} (h : Seg w a (A ++ [e]) z) (hn : ∀ e' ∈ A, e'.2 ≠ e.2) (x : Option Nat) : Seg (w.setCell ⟨e.2, 3, none⟩ (PP x)) a (A ++ [e]) x := by
  rw [seg_append] at h ⊢
  exact ⟨Seg.keep h.1 (fun e' he => Below.heap_setCell _ _ _ _ (hn e' he)), h.2.1.set3 x, trivial⟩
theorem Seg.prev {w : World} {B : List E} {e : E} {a z : Option Nat} (h : Seg w a (e :: B) z) (hn : ∀ e' ∈ B, e'.2 ≠ e.2) (x : Option Nat) : Seg (w.setCell ⟨e.2, 2, none⟩ (PP x)) x (e :: B) z :=
  ⟨h.1.set2 x, Seg.keep h.2 (fun e' he => Below.heap_setCell _ _ _ _ (hn e' he))⟩
def OC (w : World) (o : Nat) (most : Int) (m : Option Nat) (f l : Option Nat) : Prop := w.heap[o]? = some (.cells #[.int .i64 most, .map m, PP f, PP l] 197 (0, 0))
section
variable {w : World} {o : Nat} {most : Int} {m f l : Option Nat}
theorem OC.c0 (h : OC w o most m f l) : w.cell? ⟨o, 0, none⟩ = some (.int .i64 most) := by unfold OC at h; simp [World.cell?, h]
theorem OC.c1 (h : OC w o most m f l) : w.cell? ⟨o, 1, none⟩ = some (.map m) := by unfold OC at h; simp [World.cell?, h]
theorem OC.c2 (h : OC w o most m f l) : w.cell? ⟨o, 2, none⟩ = some (PP f) := by unfold OC at h; simp [World.cell?, h]
theorem OC.c3 (h : OC w o most m f l) : w.cell? ⟨o, 3, none⟩ = some (PP l) := by unfold OC at h; simp [World.cell?, h]
theorem OC.fr (h : OC w o most m f l) (i : Nat) : w.frozen? ⟨o, i, none⟩ = false := by unfold OC at h; simp [World.frozen?, h]
theorem OC.lt (h : OC w o most m f l) : o < w.heap.size := block_lt h
theorem OC.set1 (h : OC w o most m f l) (x : Option Nat) : OC (w.setCell ⟨o, 1, none⟩ (.map x)) o most x f l := bset h _
theorem OC.set2 (h : OC w o most m f l) (x : Option Nat) : OC (w.setCell ⟨o, 2, none⟩ (PP x)) o most m x l := bset h _
theorem OC.set3 (h : OC w o most m f l) (x : Option Nat) : OC (w.setCell ⟨o, 3, none⟩ (PP x)) o most m f x := bset h _
theorem OC.keep {w' : World} (h : OC w o most m f l) (hk : w'.heap[o]? = w.heap[o]?) : OC w' o most m f l := hk.trans h
theorem OC.ne {p : Nat} {k : K} {a z : Option Nat} (h : OC w o most m f l) (h' : Nd w p k a z) : o ≠ p := fun e => by
  unfold OC at h; unfold Nd at h'
  rw [e, h'] at h
  simp at h
end
structure Ln (w : World) (o : Nat) (most : Int) (m : Option Nat) (L : List E) : Prop where
  oc : OC w o most m (hd L none) (lst L none)
  sg : Seg w none L none
  nb : (L.map Prod.snd).Nodup
def fpL (o : Nat) (L : List E) : List Nat := o :: L.map Prod.snd
theorem Ln.keep {G : List Nat} {w w' : World} {o : Nat} {most : Int} {m : Option Nat} {L : List E} (h : Ln w o most m L) (ht : Touch G w w') (hn : ∀ k, k ∈ fpL o L → ¬ k ∈ G) : Ln w' o most m L :=
  ⟨h.oc.keep (ht.block o h.oc.lt (hn o (by simp [fpL]))), h.sg.keep (fun e he => by
    obtain ⟨x, y, hx⟩ := h.sg.mem e he
    exact ht.block _ hx.lt (hn _ (by simp only [fpL, List.mem_cons, List.mem_map]; exact Or.inr ⟨e, he, rfl⟩))), h.nb⟩
theorem Ln.heap {w w' : World} {o : Nat} {most : Int} {m : Option Nat} {L : List E} (h : Ln w o most m L) (he : w'.heap = w.heap) : Ln w' o most m L :=
  ⟨h.oc.keep (by rw [he]), h.sg.keep (fun e _ => by rw [he]), h.nb⟩
theorem nb_ne {A B : List E} {e : E} (h : ((A ++ e :: B).map Prod.snd).Nodup) : (∀ e' ∈ A, e'.2 ≠ e.2) ∧ (∀ e' ∈ B, e'.2 ≠ e.2) ∧ (∀ x ∈ A, ∀ y ∈ B, x.2 ≠ y.2) ∧ (A.map Prod.snd).Nodup ∧ (B.map Prod.snd).Nodup := by
  simp only [List.map_append, List.map_cons, List.nodup_append, List.nodup_cons, List.mem_map, List.mem_cons] at h
  obtain ⟨h1, ⟨h2, h3⟩, h4⟩ := h
  refine ⟨fun e' he => h4 _ ⟨e', he, rfl⟩ _ (Or.inl rfl), fun e' he h => h2 ⟨e', he, h⟩, fun x hx y hy => h4 _ ⟨x, hx, rfl⟩ _ (Or.inr ⟨y, hy, rfl⟩), h1, h3⟩
set_option maxHeartbeats 2000000 in
theorem add35_nil (w : World) (o : Nat) (most : Int) (m : Option Nat) (e : E) (a z : Option Nat) (h : Ln w o most m []) (hn : Nd w e.2 e.1 a z) :
    Calls Tryz.prog 135 #[LP o, PT e.2] w fun x w' => x = .returned (.tuple #[]) ∧ Ln w' o most m [e] ∧ Touch (e.2 :: fpL o []) w w' := by
  have hoc : OC w o most m none none := h.oc
  have ne := hoc.ne hn
  have ne' := Ne.symm ne
  have c3 := hoc.c3
  have f2 := hoc.fr 2
  have f3 := hoc.fr 3
  have g2 := hn.fr 2
  have g3 := hn.fr 3
  have n2 := hn.c2
  have n3 := hn.c3
  have c2 := hoc.c2
  have H : Hid (Ln ((((w.setCell ⟨e.2, 2, none⟩ (PP none)).setCell ⟨e.2, 3, none⟩ (PP none)).setCell ⟨o, 2, none⟩ (PP (some e.2))).setCell ⟨o, 3, none⟩ (PP (some e.2))) o most m [e] ∧ Touch (e.2 :: fpL o []) w ((((w.setCell ⟨e.2, 2, none⟩ (PP none)).setCell ⟨e.2, 3, none⟩ (PP none)).setCell ⟨o, 2, none⟩ (PP (some e.2))).setCell ⟨o, 3, none⟩ (PP (some e.2)))) := by
    have h1 := (hn.set2 none).set3 none
    have h2 : OC ((w.setCell ⟨e.2, 2, none⟩ (PP none)).setCell ⟨e.2, 3, none⟩ (PP none)) o most m none none := hoc.keep ((Below.heap_setCell _ _ _ _ ne).trans (Below.heap_setCell _ _ _ _ ne))
    refine ⟨⟨(h2.set2 (some e.2)).set3 (some e.2), ⟨(h1.keep (Below.heap_setCell _ _ _ _ ne')).keep (Below.heap_setCell _ _ _ _ ne'), trivial⟩, by simp⟩, ?_⟩
    exact ((((Touch.refl _ _).setCell (by simp) _).setCell (by simp) _).setCell (by simp [fpL]) _).setCell (by simp [fpL]) _
  clear h hoc hn
  unfold LP PT
  unfold PP at c2 c3 n2 n3 H
  simp only [Option.map_none, Option.map_some] at c2 c3 H
  go_enter Tryz.func135, Tryz.ntmps135
  go_wp2
  go_end0
  exact ⟨rfl, H.out⟩
set_option maxHeartbeats 2000000 in
theorem add35_more (w : World) (o : Nat) (most : Int) (m : Option Nat) (A : List E) (l e : E) (a z : Option Nat) (h : Ln w o most m (A ++ [l])) (hn : Nd w e.2 e.1 a z) (hf : ∀ e' ∈ A ++ [l], e'.2 ≠ e.2) :
    Calls Tryz.prog 135 #[LP o, PT e.2] w fun x w' => x = .returned (.tuple #[]) ∧ Ln w' o most m (A ++ [l] ++ [e]) ∧ Touch (e.2 :: fpL o (A ++ [l])) w w' := by
  have hoc := h.oc
  rw [lst_snoc] at hoc
  have ne := hoc.ne hn
  have ne' := Ne.symm ne
  have hl := ((seg_append _ _ _ _).1 h.sg).2.1
  have nl := hoc.ne hl
  have nl' := Ne.symm nl
  have el : l.2 ≠ e.2 := hf l (by simp)
  have el' := Ne.symm el
  have c3 := hoc.c3
  have f3 := hoc.fr 3
  have g2 := hn.fr 2
  have g3 := hn.fr 3
  have n2 := hn.c2
  have n3 := hn.c3
  have l3 := hl.c3
  have lf3 := hl.fr 3
  have H : Hid (Ln ((((w.setCell ⟨e.2, 2, none⟩ (PP (some l.2))).setCell ⟨e.2, 3, none⟩ (PP none)).setCell ⟨l.2, 3, none⟩ (PP (some e.2))).setCell ⟨o, 3, none⟩ (PP (some e.2))) o most m (A ++ [l] ++ [e]) ∧ Touch (e.2 :: fpL o (A ++ [l])) w ((((w.setCell ⟨e.2, 2, none⟩ (PP (some l.2))).setCell ⟨e.2, 3, none⟩ (PP none)).setCell ⟨l.2, 3, none⟩ (PP (some e.2))).setCell ⟨o, 3, none⟩ (PP (some e.2)))) := by
    have h1 := (hn.set2 (some l.2)).set3 none
    have h2 : OC ((w.setCell ⟨e.2, 2, none⟩ (PP (some l.2))).setCell ⟨e.2, 3, none⟩ (PP none)) o most m (hd (A ++ [l]) none) (some l.2) := hoc.keep ((Below.heap_setCell _ _ _ _ ne).trans (Below.heap_setCell _ _ _ _ ne))
    have s1 : Seg ((w.setCell ⟨e.2, 2, none⟩ (PP (some l.2))).setCell ⟨e.2, 3, none⟩ (PP none)) none (A ++ [l]) none := h.sg.keep (fun e' he => (Below.heap_setCell _ _ _ _ (hf e' he)).trans (Below.heap_setCell _ _ _ _ (hf e' he)))
    have s2 := s1.next (nb_ne (B := []) h.nb).1 (some e.2)
    refine ⟨⟨?_, ?_, ?_⟩, ?_⟩
    · have e1 : hd (A ++ [l] ++ [e]) none = hd (A ++ [l]) none := by rw [hd_append]; cases A <;> rfl
      rw [e1, lst_snoc]
      exact (h2.keep (Below.heap_setCell _ _ _ _ nl)).set3 (some e.2)
    · rw [seg_append, lst_snoc]
      have hno : ∀ e' ∈ A ++ [l], e'.2 ≠ o := fun e' he hh => by
        obtain ⟨x, y, hx⟩ := h.sg.mem e' he
        exact hoc.ne hx hh.symm
      exact ⟨s2.keep (fun e' he => Below.heap_setCell _ _ _ _ (hno e' he)), (h1.keep (Below.heap_setCell _ _ _ _ el')).keep (Below.heap_setCell _ _ _ _ ne'), trivial⟩
    · rw [List.map_append, List.nodup_append]
      refine ⟨h.nb, by simp, fun x hx y hy => ?_⟩
      simp only [List.map_cons, List.map_nil, List.mem_singleton] at hy
      subst hy
      obtain ⟨e', he, rfl⟩ := List.mem_map.1 hx
      exact hf e' he
    · exact ((((Touch.refl _ _).setCell (by simp) _).setCell (by simp) _).setCell (by simp [fpL]) _).setCell (by simp [fpL]) _
  clear h hoc hn hl hf
  unfold LP PT
  unfold PP at c3 n2 n3 H l3
  simp only [Option.map_none, Option.map_some] at c3 H l3
  go_enter Tryz.func135, Tryz.ntmps135
  go_wp2
  go_end0
  exact ⟨rfl, H.out⟩
theorem snoc_or (L : List E) : L = [] ∨ ∃ A l, L = A ++ [l] := by
  rcases List.eq_nil_or_concat L with h | ⟨A, l, h⟩
  · exact Or.inl h
  · exact Or.inr ⟨A, l, by rw [h, List.concat_eq_append]⟩
theorem add35 (w : World) (o : Nat) (most : Int) (m : Option Nat) (L : List E) (e : E) (a z : Option Nat) (h : Ln w o most m L) (hn : Nd w e.2 e.1 a z) (hf : ∀ e' ∈ L, e'.2 ≠ e.2) :
    Calls Tryz.prog 135 #[LP o, PT e.2] w fun x w' => x = .returned (.tuple #[]) ∧ Ln w' o most m (L ++ [e]) ∧ Touch (e.2 :: fpL o L) w w' := by
  rcases snoc_or L with rfl | ⟨A, l, rfl⟩
  · exact add35_nil w o most m e a z h hn
  · exact add35_more w o most m A l e a z h hn hf
set_option maxHeartbeats 4000000 in
theorem remove34_nn (w : World) (o : Nat) (most : Int) (m : Option Nat) (A : List E) (p : E) (n : E) (B : List E) (e : E) (h : Ln w o most m ((A ++ [p]) ++ e :: (n :: B))) :
    Calls Tryz.prog 117 #[LP o, PT e.2] w fun x w' => x = .returned (.tuple #[]) ∧ Ln w' o most m ((A ++ [p]) ++ (n :: B)) ∧ Touch (fpL o ((A ++ [p]) ++ e :: (n :: B))) w w' ∧ w'.heap[e.2]? = w.heap[e.2]? := by
  have hoc := h.oc
  obtain ⟨q1, q2, q3, q4, q5⟩ := nb_ne h.nb
  have sg := (seg_append _ _ _ _).1 h.sg
  have he : Nd w e.2 e.1 (some p.2) (some n.2) := by
    have := sg.2.1
    rw [lst_snoc] at this
    exact this
  have ne := hoc.ne he
  have ne' := Ne.symm ne
  have e2 := he.c2
  have e3 := he.c3
  have hno : ∀ e' ∈ (A ++ [p]) ++ e :: (n :: B), e'.2 ≠ o := fun e' he hh => by
    obtain ⟨x, y, hx⟩ := h.sg.mem e' he
    exact hoc.ne hx hh.symm
  have hp := ((seg_append _ _ _ _).1 sg.1).2.1
  have np := hoc.ne hp
  have np' := Ne.symm np
  have pe : p.2 ≠ e.2 := q1 p (by simp)
  have pe' := Ne.symm pe
  have p3 := hp.c3
  have pf3 := hp.fr 3
  have hn := sg.2.2.1
  have nn := hoc.ne hn
  have nn' := Ne.symm nn
  have en : n.2 ≠ e.2 := q2 n (by simp)
  have en' := Ne.symm en
  have n2 := hn.c2
  have nf2 := hn.fr 2
  have pn : p.2 ≠ n.2 := q3 p (by simp) n (by simp)
  have pn' := Ne.symm pn
  have H : Hid (Ln ((w.setCell ⟨p.2, 3, none⟩ (PP (some n.2))).setCell ⟨n.2, 2, none⟩ (PP (some p.2))) o most m ((A ++ [p]) ++ (n :: B)) ∧ Touch (fpL o ((A ++ [p]) ++ e :: (n :: B))) w ((w.setCell ⟨p.2, 3, none⟩ (PP (some n.2))).setCell ⟨n.2, 2, none⟩ (PP (some p.2))) ∧ ((w.setCell ⟨p.2, 3, none⟩ (PP (some n.2))).setCell ⟨n.2, 2, none⟩ (PP (some p.2))).heap[e.2]? = w.heap[e.2]?) := by
    have a1 := Seg.next (x := (some n.2)) sg.1 (nb_ne (B := []) (by simpa using q4)).1
    have a2 : Seg ((w.setCell ⟨p.2, 3, none⟩ (PP (some n.2))).setCell ⟨n.2, 2, none⟩ (PP (some p.2))) none (A ++ [p]) (some n.2) := a1.keep (fun e' he => Below.heap_setCell _ _ _ _ (q3 e' he n (by simp)))
    have b1 : Seg (w.setCell ⟨p.2, 3, none⟩ (PP (some n.2))) (some e.2) (n :: B) none := sg.2.2.keep (fun e' he => Below.heap_setCell _ _ _ _ (Ne.symm (q3 p (by simp) e' he)))
    have b2 := Seg.prev (x := (some p.2)) b1 (nb_ne (A := []) q5).2.1
    have o2 : OC ((w.setCell ⟨p.2, 3, none⟩ (PP (some n.2))).setCell ⟨n.2, 2, none⟩ (PP (some p.2))) o most m (hd ((A ++ [p]) ++ e :: (n :: B)) none) (lst ((A ++ [p]) ++ e :: (n :: B)) none) := hoc.keep ((Below.heap_setCell _ _ _ _ nn).trans (Below.heap_setCell _ _ _ _ np))
    refine ⟨⟨?_, ?_, ?_⟩, ?_, ?_⟩
    · have x1 : hd ((A ++ [p]) ++ e :: (n :: B)) none = hd ((A ++ [p]) ++ (n :: B)) none := by simp only [hd_append]; cases A <;> rfl
      have x2 : lst ((A ++ [p]) ++ e :: (n :: B)) none = lst ((A ++ [p]) ++ (n :: B)) none := by simp only [lst_append]; rfl
      rw [x1, x2] at o2
      exact o2
    · rw [seg_append, lst_snoc]
      exact ⟨a2, b2⟩
    · rw [List.map_append, List.nodup_append]
      refine ⟨q4, q5, fun x hx y hy => ?_⟩
      obtain ⟨e', he, rfl⟩ := List.mem_map.1 hx
      obtain ⟨e'', he', rfl⟩ := List.mem_map.1 hy
      exact q3 e' he e'' he'
    · exact (((Touch.refl _ _).setCell (by simp [fpL]) _).setCell (by simp [fpL]) _)
    · exact (Below.heap_setCell _ _ _ _ en').trans (Below.heap_setCell _ _ _ _ pe')
  clear h hoc he q1 q2 q3 q4 q5 sg hno hp hn
  unfold LP PT
  unfold PP at *
  simp only [Option.map_none, Option.map_some] at *
  go_enter Tryz.func117, Tryz.ntmps117
  go_wp2
  go_region
  go_wp2
  go_region
  go_wp2
  go_end0
  exact ⟨rfl, H.out.1.heap rfl, ⟨H.out.2.1.os, H.out.2.1.tape, H.out.2.1.output, H.out.2.1.size, H.out.2.1.block⟩, H.out.2.2⟩
set_option maxHeartbeats 4000000 in
theorem remove34_nb (w : World) (o : Nat) (most : Int) (m : Option Nat) (n : E) (B : List E) (e : E) (h : Ln w o most m (([]) ++ e :: (n :: B))) :
    Calls Tryz.prog 117 #[LP o, PT e.2] w fun x w' => x = .returned (.tuple #[]) ∧ Ln w' o most m (([]) ++ (n :: B)) ∧ Touch (fpL o (([]) ++ e :: (n :: B))) w w' ∧ w'.heap[e.2]? = w.heap[e.2]? := by
  have hoc := h.oc
  obtain ⟨q1, q2, q3, q4, q5⟩ := nb_ne h.nb
  have sg := (seg_append _ _ _ _).1 h.sg
  have he : Nd w e.2 e.1 none (some n.2) := by
    have := sg.2.1
    skip
    exact this
  have ne := hoc.ne he
  have ne' := Ne.symm ne
  have e2 := he.c2
  have e3 := he.c3
  have hno : ∀ e' ∈ ([]) ++ e :: (n :: B), e'.2 ≠ o := fun e' he hh => by
    obtain ⟨x, y, hx⟩ := h.sg.mem e' he
    exact hoc.ne hx hh.symm
  have c2 := hoc.c2
  have f2 := hoc.fr 2
  have hn := sg.2.2.1
  have nn := hoc.ne hn
  have nn' := Ne.symm nn
  have en : n.2 ≠ e.2 := q2 n (by simp)
  have en' := Ne.symm en
  have n2 := hn.c2
  have nf2 := hn.fr 2
  have H : Hid (Ln ((w.setCell ⟨o, 2, none⟩ (PP (some n.2))).setCell ⟨n.2, 2, none⟩ (PP none)) o most m (([]) ++ (n :: B)) ∧ Touch (fpL o (([]) ++ e :: (n :: B))) w ((w.setCell ⟨o, 2, none⟩ (PP (some n.2))).setCell ⟨n.2, 2, none⟩ (PP none)) ∧ ((w.setCell ⟨o, 2, none⟩ (PP (some n.2))).setCell ⟨n.2, 2, none⟩ (PP none)).heap[e.2]? = w.heap[e.2]?) := by
    have b1 : Seg (w.setCell ⟨o, 2, none⟩ (PP (some n.2))) (some e.2) (n :: B) none := sg.2.2.keep (fun e' he => Below.heap_setCell _ _ _ _ (hno e' (by simp only [List.mem_append, List.mem_cons] at he ⊢; exact Or.inr (Or.inr he))))
    have b2 := Seg.prev (x := none) b1 (nb_ne (A := []) q5).2.1
    have o2 : OC ((w.setCell ⟨o, 2, none⟩ (PP (some n.2))).setCell ⟨n.2, 2, none⟩ (PP none)) o most m (some n.2) (lst (([]) ++ e :: (n :: B)) none) := (hoc.set2 _).keep (Below.heap_setCell _ _ _ _ nn)
    refine ⟨⟨?_, ?_, ?_⟩, ?_, ?_⟩
    · exact o2
    · exact b2
    · rw [List.map_append, List.nodup_append]
      refine ⟨q4, q5, fun x hx y hy => ?_⟩
      obtain ⟨e', he, rfl⟩ := List.mem_map.1 hx
      obtain ⟨e'', he', rfl⟩ := List.mem_map.1 hy
      exact q3 e' he e'' he'
    · exact (((Touch.refl _ _).setCell (by simp [fpL]) _).setCell (by simp [fpL]) _)
    · exact (Below.heap_setCell _ _ _ _ en').trans (Below.heap_setCell _ _ _ _ ne')
  clear h hoc he q1 q2 q3 q4 q5 sg hno hn
  unfold LP PT
  unfold PP at *
  simp only [Option.map_none, Option.map_some] at *
  go_enter Tryz.func117, Tryz.ntmps117
  go_wp2
  go_region
  go_wp2
  go_end0
  exact ⟨rfl, H.out.1.heap rfl, ⟨H.out.2.1.os, H.out.2.1.tape, H.out.2.1.output, H.out.2.1.size, H.out.2.1.block⟩, H.out.2.2⟩
set_option maxHeartbeats 4000000 in
theorem remove34_an (w : World) (o : Nat) (most : Int) (m : Option Nat) (A : List E) (p : E) (e : E) (h : Ln w o most m ((A ++ [p]) ++ e :: ([]))) :
    Calls Tryz.prog 117 #[LP o, PT e.2] w fun x w' => x = .returned (.tuple #[]) ∧ Ln w' o most m ((A ++ [p]) ++ ([])) ∧ Touch (fpL o ((A ++ [p]) ++ e :: ([]))) w w' ∧ w'.heap[e.2]? = w.heap[e.2]? := by
  have hoc := h.oc
  obtain ⟨q1, q2, q3, q4, q5⟩ := nb_ne h.nb
  have sg := (seg_append _ _ _ _).1 h.sg
  have he : Nd w e.2 e.1 (some p.2) none := by
    have := sg.2.1
    rw [lst_snoc] at this
    exact this
  have ne := hoc.ne he
  have ne' := Ne.symm ne
  have e2 := he.c2
  have e3 := he.c3
  have hno : ∀ e' ∈ (A ++ [p]) ++ e :: ([]), e'.2 ≠ o := fun e' he hh => by
    obtain ⟨x, y, hx⟩ := h.sg.mem e' he
    exact hoc.ne hx hh.symm
  have hp := ((seg_append _ _ _ _).1 sg.1).2.1
  have np := hoc.ne hp
  have np' := Ne.symm np
  have pe : p.2 ≠ e.2 := q1 p (by simp)
  have pe' := Ne.symm pe
  have p3 := hp.c3
  have pf3 := hp.fr 3
  have c3 := hoc.c3
  have f3 := hoc.fr 3
  have H : Hid (Ln ((w.setCell ⟨p.2, 3, none⟩ (PP none)).setCell ⟨o, 3, none⟩ (PP (some p.2))) o most m ((A ++ [p]) ++ ([])) ∧ Touch (fpL o ((A ++ [p]) ++ e :: ([]))) w ((w.setCell ⟨p.2, 3, none⟩ (PP none)).setCell ⟨o, 3, none⟩ (PP (some p.2))) ∧ ((w.setCell ⟨p.2, 3, none⟩ (PP none)).setCell ⟨o, 3, none⟩ (PP (some p.2))).heap[e.2]? = w.heap[e.2]?) := by
    have a1 := Seg.next (x := none) sg.1 (nb_ne (B := []) (by simpa using q4)).1
    have a2 : Seg ((w.setCell ⟨p.2, 3, none⟩ (PP none)).setCell ⟨o, 3, none⟩ (PP (some p.2))) none (A ++ [p]) none := a1.keep (fun e' he => Below.heap_setCell _ _ _ _ (hno e' (by simp only [List.mem_append] at he ⊢; exact Or.inl he)))
    have o2 : OC ((w.setCell ⟨p.2, 3, none⟩ (PP none)).setCell ⟨o, 3, none⟩ (PP (some p.2))) o most m (hd ((A ++ [p]) ++ e :: ([])) none) (some p.2) := (hoc.keep (Below.heap_setCell _ _ _ _ np)).set3 _
    refine ⟨⟨?_, ?_, ?_⟩, ?_, ?_⟩
    · have x1 : hd ((A ++ [p]) ++ e :: ([])) none = hd ((A ++ [p]) ++ ([])) none := by simp only [hd_append]; cases A <;> rfl
      have x2 : lst ((A ++ [p]) ++ ([])) none = some p.2 := by rw [List.append_nil]; exact lst_snoc _ _ _
      rw [x2, ← x1]
      exact o2
    · rw [List.append_nil]
      exact a2
    · rw [List.map_append, List.nodup_append]
      refine ⟨q4, q5, fun x hx y hy => ?_⟩
      obtain ⟨e', he, rfl⟩ := List.mem_map.1 hx
      obtain ⟨e'', he', rfl⟩ := List.mem_map.1 hy
      exact q3 e' he e'' he'
    · exact (((Touch.refl _ _).setCell (by simp [fpL]) _).setCell (by simp [fpL]) _)
    · exact (Below.heap_setCell _ _ _ _ ne').trans (Below.heap_setCell _ _ _ _ pe')
  clear h hoc he q1 q2 q3 q4 q5 sg hno hp
  unfold LP PT
  unfold PP at *
  simp only [Option.map_none, Option.map_some] at *
  go_enter Tryz.func117, Tryz.ntmps117
  go_wp2
  go_region
  go_wp2
  go_end0
  exact ⟨rfl, H.out.1.heap rfl, ⟨H.out.2.1.os, H.out.2.1.tape, H.out.2.1.output, H.out.2.1.size, H.out.2.1.block⟩, H.out.2.2⟩
set_option maxHeartbeats 4000000 in
theorem remove34_oo (w : World) (o : Nat) (most : Int) (m : Option Nat)  (e : E) (h : Ln w o most m (([]) ++ e :: ([]))) :
    Calls Tryz.prog 117 #[LP o, PT e.2] w fun x w' => x = .returned (.tuple #[]) ∧ Ln w' o most m (([]) ++ ([])) ∧ Touch (fpL o (([]) ++ e :: ([]))) w w' ∧ w'.heap[e.2]? = w.heap[e.2]? := by
  have hoc := h.oc
  obtain ⟨q1, q2, q3, q4, q5⟩ := nb_ne h.nb
  have sg := (seg_append _ _ _ _).1 h.sg
  have he : Nd w e.2 e.1 none none := by
    have := sg.2.1
    skip
    exact this
  have ne := hoc.ne he
  have ne' := Ne.symm ne
  have e2 := he.c2
  have e3 := he.c3
  have hno : ∀ e' ∈ ([]) ++ e :: ([]), e'.2 ≠ o := fun e' he hh => by
    obtain ⟨x, y, hx⟩ := h.sg.mem e' he
    exact hoc.ne hx hh.symm
  have c2 := hoc.c2
  have f2 := hoc.fr 2
  have c3 := hoc.c3
  have f3 := hoc.fr 3
  have H : Hid (Ln ((w.setCell ⟨o, 2, none⟩ (PP none)).setCell ⟨o, 3, none⟩ (PP none)) o most m (([]) ++ ([])) ∧ Touch (fpL o (([]) ++ e :: ([]))) w ((w.setCell ⟨o, 2, none⟩ (PP none)).setCell ⟨o, 3, none⟩ (PP none)) ∧ ((w.setCell ⟨o, 2, none⟩ (PP none)).setCell ⟨o, 3, none⟩ (PP none)).heap[e.2]? = w.heap[e.2]?) := by
    have o2 : OC ((w.setCell ⟨o, 2, none⟩ (PP none)).setCell ⟨o, 3, none⟩ (PP none)) o most m none none := (hoc.set2 _).set3 _
    refine ⟨⟨?_, ?_, ?_⟩, ?_, ?_⟩
    · exact o2
    · trivial
    · rw [List.map_append, List.nodup_append]
      refine ⟨q4, q5, fun x hx y hy => ?_⟩
      obtain ⟨e', he, rfl⟩ := List.mem_map.1 hx
      obtain ⟨e'', he', rfl⟩ := List.mem_map.1 hy
      exact q3 e' he e'' he'
    · exact (((Touch.refl _ _).setCell (by simp [fpL]) _).setCell (by simp [fpL]) _)
    · exact (Below.heap_setCell _ _ _ _ ne').trans (Below.heap_setCell _ _ _ _ ne')
  clear h hoc he q1 q2 q3 q4 q5 sg hno
  unfold LP PT
  unfold PP at *
  simp only [Option.map_none, Option.map_some] at *
  go_enter Tryz.func117, Tryz.ntmps117
  go_wp2
  go_end0
  exact ⟨rfl, H.out⟩
theorem remove34 (w : World) (o : Nat) (most : Int) (m : Option Nat) (A B : List E) (e : E) (h : Ln w o most m (A ++ e :: B)) :
    Calls Tryz.prog 117 #[LP o, PT e.2] w fun x w' => x = .returned (.tuple #[]) ∧ Ln w' o most m (A ++ B) ∧ Touch (fpL o (A ++ e :: B)) w w' ∧ w'.heap[e.2]? = w.heap[e.2]? := by
  rcases snoc_or A with rfl | ⟨A, p, rfl⟩
  · cases B with
    | nil => exact remove34_oo w o most m e h
    | cons n B => exact remove34_nb w o most m n B e h
  · cases B with
    | nil => exact remove34_an w o most m A p e h
    | cons n B => exact remove34_nn w o most m A p n B e h
end Go.Proofs.YtpefbmheblfbeaaGreat.Me
/- An order in memory as a plain list of keys, the oldest first; the contracts of what only reads it, and of its maker; no conditions but those that each states. -/
namespace Go.Proofs.YtpefbmheblfbeaaGreat.Me
open Go.RowKit Go.Sort Go.Maps Go.ChangeMaps Go.WideMaps
set_option maxRecDepth 100000
set_option linter.unusedVariables false
set_option linter.unusedSimpArgs false
def Mf (f : K → Option Value) (L : List E) : Prop := (∀ e ∈ L, f e.1 = some (PT e.2)) ∧ ∀ k, ¬ k ∈ L.map Prod.fst → f k = none
structure Od (w : World) (o : Nat) (m : Option Nat) (most : Int) (L : List E) : Prop where
  ln : Ln w o most m L
  nd : (L.map Prod.fst).Nodup
  ok : ∀ e ∈ L, Ok e.1
  mp : (m = none ∧ L = []) ∨ ∃ b f, m = some b ∧ MapAt w b L.length f ∧ Mf f L
def fp (o : Nat) (m : Option Nat) (L : List E) : List Nat := o :: (m.toList ++ L.map Prod.snd)
theorem fpL_fp {o : Nat} {m : Option Nat} {L : List E} {k : Nat} (h : k ∈ fpL o L) : k ∈ fp o m L := by
  simp only [fpL, fp, List.mem_cons, List.mem_append] at h ⊢
  rcases h with h | h
  · exact Or.inl h
  · exact Or.inr (Or.inr h)
theorem Od.keep {G : List Nat} {w w' : World} {o : Nat} {m : Option Nat} {most : Int} {L : List E} (h : Od w o m most L) (ht : Touch G w w') (hn : ∀ k, k ∈ fp o m L → ¬ k ∈ G) : Od w' o m most L := by
  refine ⟨h.ln.keep ht (fun k hk => hn k (fpL_fp hk)), h.nd, h.ok, ?_⟩
  rcases h.mp with h1 | ⟨b, f, rfl, hm, hf⟩
  · exact Or.inl h1
  · exact Or.inr ⟨b, f, rfl, hm.kept (ht.block b hm.lt (hn b (by simp [fp]))), hf⟩
theorem Od.keep0 {w w' : World} {o : Nat} {m : Option Nat} {most : Int} {L : List E} (h : Od w o m most L) (ht : Touch [] w w') : Od w' o m most L := h.keep ht (fun _ _ h => by cases h)
theorem Od.lt {w : World} {o : Nat} {m : Option Nat} {most : Int} {L : List E} (h : Od w o m most L) : ∀ k, k ∈ fp o m L → k < w.heap.size := fun k hk => by
  simp only [fp, List.mem_cons, List.mem_append] at hk
  rcases hk with rfl | hk | hk
  · exact h.ln.oc.lt
  · rcases h.mp with ⟨rfl, _⟩ | ⟨b, f, rfl, hm, hf⟩
    · simp at hk
    · simp at hk; subst hk; exact hm.lt
  · obtain ⟨e, he, rfl⟩ := List.mem_map.1 hk
    obtain ⟨x, y, hx⟩ := h.ln.sg.mem e he
    exact hx.lt
section
variable {w : World} {o : Nat} {m : Option Nat} {most : Int} {L : List E}
theorem Od.look_yes (h : Od w o m most L) {e : E} (he : e ∈ L) : (Instr.lookup 192 (.map m) (kv e.1) false).run Tryz.prog w = .ok (PT e.2) w := by
  rcases h.mp with ⟨_, rfl⟩ | ⟨b, f, rfl, hm, hf⟩
  · cases he
  · have := hm.look (t := 192) Tryz.underlying192 (zero61 w) (h.ok e he)
    rw [hf.1 e he] at this
    exact this
theorem Od.look_no (h : Od w o m most L) {k : K} (hk : Ok k) (hn : ¬ k ∈ L.map Prod.fst) : (Instr.lookup 192 (.map m) (kv k) false).run Tryz.prog w = .ok (.pointer none) w := by
  rcases h.mp with ⟨rfl, rfl⟩ | ⟨b, f, rfl, hm, hf⟩
  · have := Maps.look_nil (P := Tryz.prog) (w := w) false keyed36 Tryz.underlying192 (zero61 w) (key36 hk)
    simpa using this
  · have := hm.look (t := 192) Tryz.underlying192 (zero61 w) hk
    rw [hf.2 k hn] at this
    exact this
theorem Od.len (h : Od w o m most L) (ty : TypeId) : (Builtin.len_ #[192] ty #[.map m]).run Tryz.prog w = .ok (.int .i64 L.length) w := by
  rcases h.mp with ⟨rfl, rfl⟩ | ⟨b, f, rfl, hm, hf⟩
  · exact Maps.len_nil (P := Tryz.prog) (w := w) Tryz.underlying192 ty
  · exact hm.len (t := 192) Tryz.underlying192 ty
end
theorem mayBe23 (w : World) (n : Int) : Calls Tryz.prog 142 #[.int .i64 n] w fun e w' => e = .returned (.bool (decide (0 ≤ n) && decide (n ≤ 65536))) ∧ w' = w := by
  by_cases h : 0 ≤ n
  · go_enter Tryz.func142, Tryz.ntmps142
    go_wp2
    go_ret
    simp [h]
  · go_enter Tryz.func142, Tryz.ntmps142
    go_wp2
    go_ret
    have h2 : decide (0 ≤ n) = false := decide_eq_false (by omega)
    simp [h2]
theorem check29_ok (w : World) (k : K) (h : k.2.size ≤ 64) : Calls Tryz.prog 113 #[kv k] w fun e w' => e = .returned (.int .i64 0) ∧ Touch [] w w' := by
  unfold kv
  go_enter Tryz.func113, Tryz.ntmps113
  go_wp2
  go_ret
  exact ⟨rfl, (Touch.refl _ _).alloc _⟩
theorem check29_no (w : World) (k : K) (h : 64 < k.2.size) : Calls Tryz.prog 113 #[kv k] w fun e w' => e = .returned (.int .i64 20) ∧ Touch [] w w' := by
  have h' : (64 : Int) < (k.2.size : Int) := by omega
  unfold kv
  go_enter Tryz.func113, Tryz.ntmps113
  go_wp2
  go_ret
  exact ⟨rfl, (Touch.refl _ _).alloc _⟩
theorem new6_ok (w : World) (n : Int) (h : 0 ≤ n) (h2 : n ≤ 65536) : Calls Tryz.prog 122 #[.int .i64 n] w fun e w' => e = .returned (.tuple #[PT w.heap.size, .int .i64 0]) ∧ Od w' w.heap.size none n [] ∧ Touch [] w w' := by
  have HM := mayBe23 w n
  rw [decide_eq_true h, decide_eq_true h2] at HM
  simp only [Bool.and_self] at HM
  go_enter Tryz.func122, Tryz.ntmps122
  go_wp2_with (go_at_call 142; refine HM.mono ?_; rintro e w2 ⟨rfl, rfl⟩)
  exact bodyPost_ret (v := .tuple #[PT w2.heap.size, .int .i64 0]) (by simp [results, Tryz.results122, go_sem, PT]) rfl ⟨rfl, ⟨⟨heap_alloc_new w2 _, trivial, by simp⟩, by simp, fun e he => by (cases he), Or.inl ⟨rfl, rfl⟩⟩, (Touch.refl _ _).alloc _⟩
theorem len20 (w : World) (o : Nat) (m : Option Nat) (most : Int) (L : List E) (h : Od w o m most L) : Calls Tryz.prog 138 #[PT o] w fun e w' => e = .returned (.int .i64 L.length) ∧ w' = w := by
  have c1 := h.ln.oc.c1
  have hl := h.len
  clear h
  generalize (L.length : Int) = n at *
  unfold PT
  go_enter Tryz.func138, Tryz.ntmps138
  go_wp2
  go_ret
  exact ⟨rfl, rfl⟩
theorem oldest16_cons (w : World) (o : Nat) (m : Option Nat) (most : Int) (x : E) (L : List E) (hl : L.length < 100000) (h : Od w o m most (x :: L)) : Calls Tryz.prog 151 #[PT o] w fun e w' => e = .returned (.tuple #[kv x.1, .bool true]) ∧ Touch [] w w' := by
  have HL : Hid (∀ w', Touch [] w w' → Calls Tryz.prog 138 #[.pointer (some ⟨o, 0, none⟩)] w' fun e w'' => e = .returned (.int .i64 (x :: L).length) ∧ w'' = w') := fun w' t => len20 w' o m most (x :: L) (h.keep0 t)
  have hne : (((x :: L).length : Int) == 0) = false := by simp; omega
  have ho := h.ln.oc.lt
  have c2 := h.ln.oc.c2
  have hn := h.ln.sg.1
  have hx := hn.lt
  have n0 := hn.c0
  have n1 := hn.c1
  unfold PP at c2
  simp only [hd, Option.map_some] at c2
  clear h hn
  generalize ((x :: L).length : Int) = n at *
  unfold PT kv
  go_enter Tryz.func151, Tryz.ntmps151
  go_wp2_with (go_at_call 138; refine (HL.out _ ((Touch.refl _ _).alloc _)).mono ?_; rintro e w2 ⟨rfl, rfl⟩)
  refine bodyPost_ret (v := .tuple #[.agg #[.int .u16 x.1.1, .string x.1.2], .bool true]) (by simp [results, Tryz.results151, go_sem]) rfl ⟨rfl, ?_⟩
  exact (Touch.refl _ _).alloc _
theorem has19_yes (w : World) (o : Nat) (m : Option Nat) (most : Int) (L : List E) (e : E) (he : e ∈ L) (h : Od w o m most L) : Calls Tryz.prog 116 #[PT o, kv e.1] w fun x w' => x = .returned (.bool true) ∧ Touch [] w w' := by
  have hl : ∀ n, (Instr.lookup 192 (.map m) (kv e.1) false).run Tryz.prog ((w.alloc (.cells #[.int .u16 e.1.1, .string e.1.2] 54)).drewN n) = .ok (PT e.2) ((w.alloc (.cells #[.int .u16 e.1.1, .string e.1.2] 54)).drewN n) := fun n => (h.keep0 (((Touch.refl _ _).alloc _).drewN n)).look_yes he
  have c1 := (h.keep0 ((Touch.refl _ _).alloc (.cells #[.int .u16 e.1.1, .string e.1.2] 54))).ln.oc.c1
  unfold PT kv at *
  clear h
  go_enter Tryz.func116, Tryz.ntmps116
  go_wp2
  go_quiet (fail)
  go_wp2
  go_ret
  exact ⟨rfl, ((Touch.refl _ _).alloc _).drewN _⟩
theorem has19_no (w : World) (o : Nat) (m : Option Nat) (most : Int) (L : List E) (k : K) (hk : Ok k) (hn : ¬ k ∈ L.map Prod.fst) (h : Od w o m most L) : Calls Tryz.prog 116 #[PT o, kv k] w fun x w' => x = .returned (.bool false) ∧ Touch [] w w' := by
  have hl : ∀ n, (Instr.lookup 192 (.map m) (kv k) false).run Tryz.prog ((w.alloc (.cells #[.int .u16 k.1, .string k.2] 54)).drewN n) = .ok (.pointer none) ((w.alloc (.cells #[.int .u16 k.1, .string k.2] 54)).drewN n) := fun n => (h.keep0 (((Touch.refl _ _).alloc _).drewN n)).look_no hk hn
  have c1 := (h.keep0 ((Touch.refl _ _).alloc (.cells #[.int .u16 k.1, .string k.2] 54))).ln.oc.c1
  unfold PT kv at *
  clear h
  go_enter Tryz.func116, Tryz.ntmps116
  go_wp2
  go_quiet (fail)
  go_wp2
  go_ret
  exact ⟨rfl, ((Touch.refl _ _).alloc _).drewN _⟩
end Go.Proofs.YtpefbmheblfbeaaGreat.Me
/- The contract of enter: a key that is not there is the one that was used last behind it; there are fewer than a hundred thousand. -/
namespace Go.Proofs.YtpefbmheblfbeaaGreat.Me
open Go.RowKit Go.Sort Go.Maps Go.ChangeMaps Go.WideMaps
set_option maxRecDepth 100000
set_option linter.unusedVariables false
set_option linter.unusedSimpArgs false
theorem maxLen_big {n : Nat} (h : n ≤ 100000) : n < maxLen := by unfold maxLen; omega
theorem MapAt.ne_block {w : World} {b n : Nat} {g : K → Option Value} (hm : MapAt w b n g) {q : Nat} {cs : Array Value} {t : TypeId} {fr : Nat × Nat} (h : w.heap[q]? = some (.cells cs t fr)) : b ≠ q := fun e => by
  obtain ⟨D, ⟨es, cl, hb, _⟩, _⟩ := hm
  rw [← e, hb] at h
  simp at h
theorem Mf.push {f : K → Option Value} {L : List E} (h : Mf f L) {k : K} {p : Nat} (hn : ¬ k ∈ L.map Prod.fst) : Mf (upd f k (PT p)) (L ++ [(k, p)]) := by
  refine ⟨fun e he => ?_, fun j hj => ?_⟩
  · simp only [List.mem_append, List.mem_singleton] at he
    rcases he with he | rfl
    · unfold upd
      rw [if_neg (fun e' => hn (by rw [← e']; exact List.mem_map.2 ⟨e, he, rfl⟩))]
      exact h.1 e he
    · simp [upd]
  · simp only [List.map_append, List.mem_append, List.map_cons, List.map_nil, List.mem_singleton, not_or] at hj
    unfold upd
    rw [if_neg hj.2]
    exact h.2 j hj.1
theorem Ln.setMap {w : World} {o b : Nat} {most : Int} {m : Option Nat} {L : List E} (h : Ln w o most m L) (hb : ∀ k ∈ fpL o L, k ≠ b) (ob : Obj) : Ln (setBlock w b ob) o most m L :=
  ⟨h.oc.keep (setBlock_other _ _ _ (hb o (by simp [fpL]))), h.sg.keep (fun e he => setBlock_other _ _ _ (hb _ (by simp only [fpL, List.mem_cons, List.mem_map]; exact Or.inr ⟨e, he, rfl⟩))), h.nb⟩
theorem Ln.cells {w : World} {o : Nat} {most : Int} {m : Option Nat} {L : List E} (h : Ln w o most m L) : ∀ k ∈ fpL o L, ∃ cs t fr, w.heap[k]? = some (.cells cs t fr) := fun k hk => by
  simp only [fpL, List.mem_cons, List.mem_map] at hk
  rcases hk with rfl | ⟨e, he, rfl⟩
  · exact ⟨_, _, _, h.oc⟩
  · obtain ⟨x, y, hx⟩ := h.sg.mem e he
    exact ⟨_, _, _, hx⟩
def EnQ (w : World) (o : Nat) (m : Option Nat) (most : Int) (L : List E) (k : K) (w' : World) : Prop :=
  ∃ m' p, Od w' o m' most (L ++ [(k, p)]) ∧ Touch (fp o m L) w w' ∧ Nf w (fp o m L) (fp o m' (L ++ [(k, p)]))
theorem enter_end {w V : World} {o b : Nat} {m : Option Nat} {most : Int} {L : List E} {k : K} {p n : Nat} {f : K → Option Value} (hL : Ln V o most (some b) L) (hn : Nd V p k none none) (hb : MapAt V b n f) (hk : Ok k) (hN : n = L.length) (hf : Mf f L) (hnk : ¬ k ∈ L.map Prod.fst) (hnd : (L.map Prod.fst).Nodup) (hok : ∀ e ∈ L, Ok e.1) (hp : w.heap.size ≤ p) (hpf : ∀ e ∈ L, e.2 ≠ p) (hbn : m = some b ∨ w.heap.size ≤ b) (ht : Touch (fp o m L) w V)
    {ob : Obj} (hs : MapAt (setBlock V.drew b ob) b (if (f k).isSome then n else n + 1) (upd f k (PT p))) :
    Calls Tryz.prog 135 #[LP o, PT p] (setBlock V.drew b ob) fun x w' => x = .returned (.tuple #[]) ∧ EnQ w o m most L k w' := by
  have hbl : ∀ q ∈ fpL o L, q ≠ b := fun q hq => by
    obtain ⟨cs, t, fr, hc⟩ := hL.cells q hq
    exact Ne.symm (hb.ne_block hc)
  have hbp : p ≠ b := Ne.symm (hb.ne_block hn)
  have L2 : Ln (setBlock V.drew b ob) o most (some b) L := Ln.setMap (w := V.drew) (hL.heap rfl) hbl ob
  have N2 : Nd (setBlock V.drew b ob) p k none none := Nd.keep (w := V) hn (setBlock_other _ _ _ hbp)
  refine (add35 _ o most (some b) L (k, p) none none L2 N2 hpf).mono ?_
  rintro x w' ⟨rfl, hL', ht'⟩
  refine ⟨rfl, some b, p, ⟨hL', ?_, ?_, Or.inr ⟨b, upd f k (PT p), rfl, ?_, hf.push hnk⟩⟩, ?_, ?_⟩
  · rw [List.map_append, List.nodup_append]
    refine ⟨hnd, by simp, fun x hx y hy => ?_⟩
    simp only [List.map_cons, List.map_nil, List.mem_singleton] at hy
    subst hy
    exact fun e => hnk (e ▸ hx)
  · intro e he
    simp only [List.mem_append, List.mem_singleton] at he
    rcases he with he | rfl
    · exact hok e he
    · exact hk
  · have : (L ++ [(k, p)]).length = if (f k).isSome then n else n + 1 := by
      rw [hf.2 k hnk]; simp [hN]
    rw [this]
    refine hs.kept (ht'.block b hs.lt ?_)
    simp only [List.mem_cons, not_or]
    exact ⟨Ne.symm hbp, fun h => hbl b h rfl⟩
  · have h1 : Touch (fp o m L) w (setBlock V.drew b ob) := touch_setBlock ht.drew (hbn.elim (fun e => Or.inl (by simp [fp, e])) Or.inr) ob
    refine h1.trans ht' (fun i hi => ?_)
    simp only [List.mem_cons] at hi
    rcases hi with rfl | hi
    · exact Or.inr hp
    · exact Or.inl (fpL_fp hi)
  · intro i hi
    simp only [fp, List.map_append, List.mem_cons, List.mem_append, Option.toList_some, List.map_cons, List.map_nil, List.mem_singleton, List.not_mem_nil, or_false] at hi ⊢
    rcases hi with hi | hi | hi
    · exact Or.inl (Or.inl hi)
    · rw [hi]
      rcases hbn with rfl | e
      · exact Or.inl (Or.inr (Or.inl (by simp)))
      · exact Or.inr e
    · rcases hi with hi | hi
      · exact Or.inl (Or.inr (Or.inr hi))
      · rw [hi]
        exact Or.inr hp
set_option maxHeartbeats 2000000 in
theorem enter30_some (w : World) (o b : Nat) (most : Int) (L : List E) (k : K) (hk : Ok k) (hnk : ¬ k ∈ L.map Prod.fst) (hlen : L.length < 100000) (h : Od w o (some b) most L) :
    Calls Tryz.prog 112 #[PT o, kv k] w fun x w' => x = .returned (.tuple #[]) ∧ EnQ w o (some b) most L k w' := by
  obtain ⟨b', f, hbb, hm, hf⟩ : ∃ b' f, some b = some b' ∧ MapAt w b' L.length f ∧ Mf f L := by
    rcases h.mp with ⟨e, _⟩ | e
    · cases e
    · exact e
  cases hbb
  have c1 := h.ln.oc.c1
  have ho := h.ln.oc.lt
  obtain ⟨V, hV⟩ : ∃ V, V = (w.alloc (.cells #[.int .u16 k.1, .string k.2] 54)).alloc (.cells #[.int .u16 k.1, .string k.2, .pointer none, .pointer none] 220) := ⟨_, rfl⟩
  have TV : Touch [] w V := by rw [hV]; exact ((Touch.refl _ _).alloc _).alloc _
  have hmV : MapAt V b L.length f := hm.kept (TV.block b hm.lt (by simp))
  have hN : Nd V (w.heap.size + 1) k none none := by
    rw [hV]
    have := heap_alloc_new (w.alloc (.cells #[.int .u16 k.1, .string k.2] 54)) (.cells #[.int .u16 k.1, .string k.2, .pointer none, .pointer none] 220)
    rwa [World.size_alloc] at this
  have hV0 : V.cell? ⟨w.heap.size, 0, none⟩ = some (.int .u16 k.1) := by rw [hV]; simp
  have hV1 : V.cell? ⟨w.heap.size, 1, none⟩ = some (.string k.2) := by rw [hV]; simp
  have cV := (h.keep0 TV).ln.oc.c1
  obtain ⟨ob, hu, hm2⟩ := (show MapAt V.drew b L.length f from hmV.kept rfl).set (t := 192) Tryz.underlying192 (maxLen_big (by omega)) hk (PT (w.heap.size + 1))
  have HA := hid (enter_end (w := w) (m := some b) (h.ln.keep TV (fun _ _ e => by cases e)) hN hmV hk rfl hf hnk h.nd h.ok (Nat.le_succ _) (fun e he hh => by
    obtain ⟨x, y, hx⟩ := h.ln.sg.mem e he
    have := hx.lt
    omega) (Or.inl rfl) (TV.mono (fun _ e => by cases e)) hm2)
  have q60 := eq60
  clear h hm hf hmV hm2 hN TV hnk hk
  unfold PT kv at *
  unfold LP at HA
  go_enter Tryz.func112, Tryz.ntmps112
  go_wp2
  rw [← hV]
  clear hV
  generalize setBlock V.drew b ob = W2 at *
  go_region
  go_wp2_with (go_at_call 135; refine HA.out.mono ?_; rintro e w3 ⟨rfl, r⟩; have R := hid r; clear r)
  go_end0
  exact ⟨rfl, R.out⟩
set_option maxHeartbeats 2000000 in
theorem enter30_none (w : World) (o : Nat) (most : Int) (k : K) (hk : Ok k) (h : Od w o none most []) :
    Calls Tryz.prog 112 #[PT o, kv k] w fun x w' => x = .returned (.tuple #[]) ∧ EnQ w o none most [] k w' := by
  have c1 := h.ln.oc.c1
  have f1 := h.ln.oc.fr 1
  have ho := h.ln.oc.lt
  have hmm := @run_makeMap Tryz.prog
  have q60 := eq60
  have H := hid h
  clear h
  unfold PT kv
  go_enter Tryz.func112, Tryz.ntmps112
  go_wp2
  have h := H.out
  obtain ⟨V, hV⟩ : ∃ V, V = (((w.setCell ⟨o, 1, none⟩ (.map (some (w.heap.size + 1)))).alloc (.cells #[.int .u16 k.1, .string k.2] 54)).alloc (Obj.map #[] 0)).alloc (.cells #[.int .u16 k.1, .string k.2, .pointer none, .pointer none] 220) := ⟨_, rfl⟩
  have TV : Touch (fp o none []) w V := by rw [hV]; exact ((((Touch.refl _ _).setCell (by simp [fp]) _).alloc _).alloc _).alloc _
  have z1 : ((w.setCell ⟨o, 1, none⟩ (.map (some (w.heap.size + 1)))).alloc (.cells #[.int .u16 k.1, .string k.2] 54)).heap.size = w.heap.size + 1 := by simp [World.setCell]
  have hmV : MapAt V (w.heap.size + 1) 0 (fun _ => none) := by
    have := mapAt_made ((w.setCell ⟨o, 1, none⟩ (.map (some (w.heap.size + 1)))).alloc (.cells #[.int .u16 k.1, .string k.2] 54))
    rw [z1] at this
    rw [hV]
    exact this.kept (Below.heap_alloc _ _ _ this.lt)
  have hN : Nd V (w.heap.size + 1 + 1) k none none := by
    rw [hV]
    have := heap_alloc_new (((w.setCell ⟨o, 1, none⟩ (.map (some (w.heap.size + 1)))).alloc (.cells #[.int .u16 k.1, .string k.2] 54)).alloc (Obj.map #[] 0)) (.cells #[.int .u16 k.1, .string k.2, .pointer none, .pointer none] 220)
    rwa [World.size_alloc, z1] at this
  have hL : Ln V o most (some (w.heap.size + 1)) [] := by
    refine ⟨?_, trivial, by simp⟩
    rw [hV]
    exact (Below.heap_alloc _ _ _ (by simp [World.setCell]; omega)).trans ((Below.heap_alloc _ _ _ (by simp [World.setCell]; omega)).trans ((Below.heap_alloc _ _ _ (by simp [World.setCell]; omega)).trans (h.ln.oc.set1 _)))
  have hB : V.heap[w.heap.size]? = some (.cells #[.int .u16 k.1, .string k.2] 54 (0, 0)) := by
    rw [hV]
    have z0 : (w.setCell ⟨o, 1, none⟩ (.map (some (w.heap.size + 1)))).heap.size = w.heap.size := by simp [World.setCell]
    have := heap_alloc_new (w.setCell ⟨o, 1, none⟩ (.map (some (w.heap.size + 1)))) (.cells #[.int .u16 k.1, .string k.2] 54)
    rw [z0] at this
    exact (Below.heap_alloc _ _ _ (by rw [World.size_alloc, z1]; omega)).trans ((Below.heap_alloc _ _ _ (by rw [z1]; omega)).trans this)
  have hV0 : V.cell? ⟨w.heap.size, 0, none⟩ = some (.int .u16 k.1) := by simp [World.cell?, hB]
  have hV1 : V.cell? ⟨w.heap.size, 1, none⟩ = some (.string k.2) := by simp [World.cell?, hB]
  clear hB
  have cV := hL.oc.c1
  obtain ⟨ob, hu, hm2⟩ := (show MapAt V.drew (w.heap.size + 1) 0 (fun _ => none) from hmV.kept rfl).set (t := 192) Tryz.underlying192 (maxLen_big (by omega)) hk (PT (w.heap.size + 1 + 1))
  have HA := hid (enter_end (w := w) (m := none) hL hN hmV hk rfl ⟨fun e he => (by cases he), fun _ _ => rfl⟩ (by simp) (by simp) (fun e he => (by cases he)) (by omega) (fun e he => (by cases he)) (Or.inr (by omega)) TV hm2)
  rw [← hV]
  clear hV hL hN hmV hm2 TV H c1 f1 h hmm q60 z1 hk
  unfold PT at *
  unfold kv at *
  unfold LP at HA
  generalize setBlock V.drew (w.heap.size + 1) ob = W2 at *
  go_region
  go_wp2_with (go_at_call 135; refine HA.out.mono ?_; rintro e w3 ⟨rfl, r⟩; have R := hid r; clear r)
  go_end0
  exact ⟨rfl, R.out⟩
theorem enter30 (w : World) (o : Nat) (m : Option Nat) (most : Int) (L : List E) (k : K) (hk : Ok k) (hnk : ¬ k ∈ L.map Prod.fst) (hlen : L.length < 100000) (h : Od w o m most L) :
    Calls Tryz.prog 112 #[PT o, kv k] w fun x w' => x = .returned (.tuple #[]) ∧ EnQ w o m most L k w' := by
  cases m with
  | some b => exact enter30_some w o b most L k hk hnk hlen h
  | none =>
    obtain rfl : L = [] := by
      rcases h.mp with ⟨_, e⟩ | ⟨b, f, e, _⟩
      · exact e
      · cases e
    exact enter30_none w o most k hk h
end Go.Proofs.YtpefbmheblfbeaaGreat.Me
/- A region that draws its order and stores into what it reads: what is read may be taken first, under a condition on the world that holds till that store has come up. No conditions. -/
namespace Go.Proofs.YtpefbmheblfbeaaGreat
set_option linter.unusedVariables false
section
variable {P : Program} {ops : Array Oper} {Q : Exit → Act → World → Prop} {md : Region.Mode} {S : World → Prop} {st : Nat}
def wpL (P : Program) (md : Region.Mode) (ops : Array Oper) (Q : Exit → Act → World → Prop) (S : World → Prop) (st : Nat) : Nat → Array Bool → Act → World → Prop
  | 0, listed, a, w => Region.ready md ops listed = [] ∧ Q .normal a w
  | fuel + 1, listed, a, w =>
    (Region.ready md ops listed = [] → Q .normal a w) ∧
    ∀ i ∈ Region.ready md ops listed, wpOp P ops Q i (fun a' w' => ((listed.setIfInBounds i true).getD st true = false → S w') ∧ wpL P md ops Q S st fuel (listed.setIfInBounds i true) a' w') a w
theorem wpAny_of_wpL : ∀ (fuel : Nat) (listed : Array Bool) (a : Act) (w : World), wpL P md ops Q S st fuel listed a w → wpAny P md ops Q fuel listed a w
  | 0, _, _, _, h => h
  | fuel + 1, _, _, _, h => ⟨h.1, fun i hi => wpOp_mono (fun a' w' h' => wpAny_of_wpL fuel _ a' w' h'.2) (h.2 i hi)⟩
theorem getD_set_st {listed : Array Bool} {i st : Nat} (h : i ≠ st) : (listed.setIfInBounds i true).getD st true = listed.getD st true := getD_set_ne true h
theorem wpL_first {i : Nat} {oi : Oper} {v : Value} (hi : ops[i]? = some oi) (hsel : ∀ (j : Nat) (o : Oper) cs b, ops[j]? = some o → o.op ≠ .select cs b)
    (hQ : ∀ c a w, Q (.panic c) (a.put oi.dst v) w → Q (.panic c) a w) (hst : Region.waitsFor md ops st i = true) (hne : i ≠ st) :
    ∀ (fuel : Nat) (listed : Array Bool) (a : Act) (w : World), listed.getD st true = false →
      (∀ j oj, ops[j]? = some oj → j ≠ i → listed.getD j true = false → (∀ e ∈ oj.after, Region.binds md e = true → e.on ≠ i) → oi.apart ops oj = true) →
      i ∈ Region.ready md ops listed → YieldsIf P ops S oi v a → S w →
      wpL P md ops Q S st fuel (listed.setIfInBounds i true) (a.put oi.dst v) w → wpL P md ops Q S st (fuel + 1) listed a w := by
  intro fuel
  induction fuel with
  | zero =>
    intro listed a w _ _ hr hy hS H
    refine ⟨fun h => (by rw [h] at hr; cases hr), fun j hj => ?_⟩
    by_cases hji : j = i
    · subst hji; exact hy.wpOp hi hS ⟨fun _ => hS, H⟩
    · have := ready_mono hj hji
      rw [H.1] at this
      cases this
  | succ fuel ih =>
    intro listed a w hl hfree hr hy hS H
    refine ⟨fun h => (by rw [h] at hr; cases hr), fun j hj => ?_⟩
    by_cases hji : j = i
    · subst hji; exact hy.wpOp hi hS ⟨fun _ => hS, H⟩
    · have h1 := H.2 j (ready_mono hj hji)
      obtain ⟨hjun, oj, hoj, hall⟩ := mem_ready.1 hj
      have hnot : ∀ e ∈ oj.after, Region.binds md e = true → e.on ≠ i := fun e he hb heq => by
        have h1 := hall e he hb
        have h0 := (mem_ready.1 hr).1
        rw [heq] at h1
        rcases Nat.lt_or_ge i listed.size with h' | h'
        · simp [h'] at h0 h1; rw [h0] at h1; cases h1
        · simp [Array.getElem?_eq_none h'] at h1
      have hjst : j ≠ st := fun e => by
        obtain ⟨os, hos, e', he', hb', hon⟩ := Region.waitsFor_spec hst
        rw [← e, hoj] at hos
        cases hos
        exact hnot e' he' hb' hon
      have h2 := wpOp_putIf hoj (hfree j oj hoj hji hjun hnot) (fun cs b => hsel i oi cs b hi) (fun cs b => hsel j oj cs b hoj) hQ hy h1
      have hfree' : ∀ k ok, ops[k]? = some ok → k ≠ i → (listed.setIfInBounds j true).getD k true = false →
          (∀ e ∈ ok.after, Region.binds md e = true → e.on ≠ i) → oi.apart ops ok = true := fun k ok hk hki hun hno => by
        refine hfree k ok hk hki ?_ hno
        by_cases hjk : j = k
        · subst hjk; exact hjun
        · rw [getD_set_ne true hjk] at hun; exact hun
      have hl' : (listed.setIfInBounds j true).getD st true = false := by rw [getD_set_st hjst]; exact hl
      have hl2 : ((listed.setIfInBounds i true).setIfInBounds j true).getD st true = false := by rw [getD_set_st hjst, getD_set_st hne]; exact hl
      refine wpOp_mono (fun a' w' h3 => ⟨fun _ => h3.2.1 hl2, ih (listed.setIfInBounds j true) a' w' hl' hfree' (ready_mono hr (Ne.symm hji)) h3.1 (h3.2.1 hl2) ?_⟩) h2
      rw [Array.setIfInBounds_comm _ _ hji]
      exact h3.2.2
theorem wpL_any {i : Nat} {oi : Oper} {v : Value} (hi : ops[i]? = some oi) (hsel : ∀ (j : Nat) (o : Oper) cs b, ops[j]? = some o → o.op ≠ .select cs b)
    (hQ : ∀ c a w, Q (.panic c) (a.put oi.dst v) w → Q (.panic c) a w) (hne : i ≠ st) :
    ∀ (fuel : Nat) (listed : Array Bool) (a : Act) (w : World),
      (∀ j oj, ops[j]? = some oj → j ≠ i → listed.getD j true = false → (∀ e ∈ oj.after, Region.binds md e = true → e.on ≠ i) → oi.apart ops oj = true) →
      i ∈ Region.ready md ops listed → YieldsIf P ops (fun _ => True) oi v a → (listed.getD st true = false → S w) →
      wpL P md ops Q S st fuel (listed.setIfInBounds i true) (a.put oi.dst v) w → wpL P md ops Q S st (fuel + 1) listed a w := by
  intro fuel
  induction fuel with
  | zero =>
    intro listed a w _ hr hy hS H
    refine ⟨fun h => (by rw [h] at hr; cases hr), fun j hj => ?_⟩
    by_cases hji : j = i
    · subst hji; exact hy.wpOp hi trivial ⟨fun h => hS (by rw [← getD_set_st hne]; exact h), H⟩
    · have := ready_mono hj hji
      rw [H.1] at this
      cases this
  | succ fuel ih =>
    intro listed a w hfree hr hy hS H
    refine ⟨fun h => (by rw [h] at hr; cases hr), fun j hj => ?_⟩
    by_cases hji : j = i
    · subst hji; exact hy.wpOp hi trivial ⟨fun h => hS (by rw [← getD_set_st hne]; exact h), H⟩
    · have h1 := H.2 j (ready_mono hj hji)
      obtain ⟨hjun, oj, hoj, hall⟩ := mem_ready.1 hj
      have hnot : ∀ e ∈ oj.after, Region.binds md e = true → e.on ≠ i := fun e he hb heq => by
        have h1 := hall e he hb
        have h0 := (mem_ready.1 hr).1
        rw [heq] at h1
        rcases Nat.lt_or_ge i listed.size with h' | h'
        · simp [h'] at h0 h1; rw [h0] at h1; cases h1
        · simp [Array.getElem?_eq_none h'] at h1
      have h2 := wpOp_putIf hoj (hfree j oj hoj hji hjun hnot) (fun cs b => hsel i oi cs b hi) (fun cs b => hsel j oj cs b hoj) hQ hy h1
      have hfree' : ∀ k ok, ops[k]? = some ok → k ≠ i → (listed.setIfInBounds j true).getD k true = false →
          (∀ e ∈ ok.after, Region.binds md e = true → e.on ≠ i) → oi.apart ops ok = true := fun k ok hk hki hun hno => by
        refine hfree k ok hk hki ?_ hno
        by_cases hjk : j = k
        · subst hjk; exact hjun
        · rw [getD_set_ne true hjk] at hun; exact hun
      have hS' : ∀ {w' : World}, (((listed.setIfInBounds i true).setIfInBounds j true).getD st true = false → S w') → (listed.setIfInBounds j true).getD st true = false → S w' := fun {w'} h hh => h (by
        rw [Array.setIfInBounds_comm _ _ (Ne.symm hji), getD_set_st hne]
        exact hh)
      refine wpOp_mono (fun a' w' h3 => ⟨hS' h3.2.1, ih (listed.setIfInBounds j true) a' w' hfree' (ready_mono hr (Ne.symm hji)) h3.1 (hS' h3.2.1) ?_⟩) h2
      rw [Array.setIfInBounds_comm _ _ hji]
      exact h3.2.2
theorem wpL_take {i : Nat} {oi : Oper} {v : Value} {fuel : Nat} {listed : Array Bool} {a : Act} {w : World} (d : Option Tmp) (hi : ops[i]? = some oi) (hd : oi.dst = d)
    (hs : Region.noSelect ops = true) (hf : Region.free md ops listed i = true) (hr : (Region.ready md ops listed).contains i = true) (hst : Region.waitsFor md ops st i = true) (hl : listed.getD st true = false) (hne : i ≠ st)
    (hQ : ∀ c a w, Q (.panic c) (a.put oi.dst v) w → Q (.panic c) a w) (hy : YieldsIf P ops S oi v a) (hS : S w)
    (h : wpL P md ops Q S st fuel (listed.setIfInBounds i true) (a.put d v) w) : wpL P md ops Q S st (fuel + 1) listed a w :=
  wpL_first hi (Region.noSelect_spec hs) hQ hst hne fuel listed a w hl (Region.free_spec hi hf) (by simpa using hr) hy hS (by rw [hd]; exact h)
theorem wpL_takeY {i : Nat} {oi : Oper} {v : Value} {fuel : Nat} {listed : Array Bool} {a : Act} {w : World} (d : Option Tmp) (hi : ops[i]? = some oi) (hd : oi.dst = d)
    (hs : Region.noSelect ops = true) (hf : Region.free md ops listed i = true) (hr : (Region.ready md ops listed).contains i = true) (hne : i ≠ st)
    (hQ : ∀ c a w, Q (.panic c) (a.put oi.dst v) w → Q (.panic c) a w) (hy : YieldsIf P ops (fun _ => True) oi v a) (hS : listed.getD st true = false → S w)
    (h : wpL P md ops Q S st fuel (listed.setIfInBounds i true) (a.put d v) w) : wpL P md ops Q S st (fuel + 1) listed a w :=
  wpL_any hi (Region.noSelect_spec hs) hQ hne fuel listed a w (Region.free_spec hi hf) (by simpa using hr) hy hS (by rw [hd]; exact h)
def AllL (P : Program) (md : Region.Mode) (ops : Array Oper) (Q : Exit → Act → World → Prop) (S : World → Prop) (st fuel : Nat) (listed : Array Bool) (a : Act) (w : World) (rs : List Nat) : Prop :=
  ∀ i ∈ rs, wpOp P ops Q i (fun a' w' => ((listed.setIfInBounds i true).getD st true = false → S w') ∧ wpL P md ops Q S st fuel (listed.setIfInBounds i true) a' w') a w
theorem AllL.nil {fuel : Nat} {listed : Array Bool} {a : Act} {w : World} : AllL P md ops Q S st fuel listed a w [] := fun _ h => by cases h
theorem AllL.cons {fuel : Nat} {listed : Array Bool} {a : Act} {w : World} {i : Nat} {o : Oper} {rs : List Nat} (ho : ops[i]? = some o)
    (h : ∀ K' : Act → World → Prop, Shut (∀ a w, ((listed.setIfInBounds i true).getD st true = false → S w) → wpL P md ops Q S st fuel (listed.setIfInBounds i true) a w → K' a w) → if Region.wanted o (yielded ops a.tmps) = true then Oper.wp P o a w K' Q else K' (a.put o.dst undef) w)
    (hs : AllL P md ops Q S st fuel listed a w rs) : AllL P md ops Q S st fuel listed a w (i :: rs) := fun j hj => by
  rcases List.mem_cons.1 hj with rfl | hj
  · exact wpOp_step ho (fun K' hK => h K' (fun a w hS hW => hK a w ⟨hS, hW⟩))
  · exact hs j hj
theorem wpL_ready {rs : List Nat} {fuel : Nat} {listed : Array Bool} {a : Act} {w : World} (hr : Region.ready md ops listed = rs) (hne : rs ≠ [])
    (h : AllL P md ops Q S st fuel listed a w rs) : wpL P md ops Q S st (fuel + 1) listed a w := ⟨fun h0 => absurd (hr ▸ h0) hne, hr ▸ h⟩
theorem wpL_done {listed : Array Bool} {a : Act} {w : World} (hr : Region.ready md ops listed = []) (h : Q .normal a w) : ∀ fuel, wpL P md ops Q S st fuel listed a w
  | 0 => ⟨hr, h⟩
  | _ + 1 => ⟨fun _ => h, by rw [hr]; simp⟩
theorem wp_region_L {id : Nat} {a : Act} {w : World} (hm : P.follows .mixedOrders = true)
    (h : wpL P .any ops Q S st ops.size (Array.replicate ops.size false) a w.drew) : (Code.region id ops true).wp P Q a w :=
  wp_region_any hm (wpAny_of_wpL _ _ _ _ h)
end
end Go.Proofs.YtpefbmheblfbeaaGreat
/- The contracts of Touch and Drop; no conditions but those that each states. -/
namespace Go.Proofs.YtpefbmheblfbeaaGreat.Me
open Go.RowKit Go.Sort Go.Maps Go.ChangeMaps Go.WideMaps
set_option maxRecDepth 100000
set_option linter.unusedVariables false
set_option linter.unusedSimpArgs false
def bx (k : K) : Obj := .cells #[.int .u16 k.1, .string k.2] 54
theorem box_cells (w : World) (k : K) : ∀ w2, Touch [] (w.alloc (bx k)) w2 → w2.cell? ⟨w.heap.size, 0, none⟩ = some (.int .u16 k.1) ∧ w2.cell? ⟨w.heap.size, 1, none⟩ = some (.string k.2) := fun w2 t => by
  have h := t.keep (k := w.heap.size) (heap_alloc_new w (bx k)) (by simp)
  unfold bx at h
  simp [World.cell?, h]
theorem find_key {L : List E} {k : K} (h : k ∈ L.map Prod.fst) : ∃ A e B, L = A ++ e :: B ∧ e.1 = k := by
  obtain ⟨e, he, rfl⟩ := List.mem_map.1 h
  obtain ⟨A, B, rfl⟩ := List.append_of_mem he
  exact ⟨A, e, B, rfl, rfl⟩
theorem mapAt_away {w : World} {o : Nat} {m : Option Nat} {most : Int} {L : List E} (h : Od w o m most L) {b n : Nat} {f : K → Option Value} (hm : MapAt w b n f) : ¬ b ∈ fpL o L := fun hb => by
  obtain ⟨cs, t, fr, hc⟩ := h.ln.cells b hb
  exact hm.ne_block hc rfl
theorem nd_mid {A B : List E} {e : E} (h : ((A ++ e :: B).map Prod.fst).Nodup) : (∀ e' ∈ A, e'.1 ≠ e.1) ∧ (∀ e' ∈ B, e'.1 ≠ e.1) ∧ ((A ++ B).map Prod.fst).Nodup ∧ ((A ++ B ++ [e]).map Prod.fst).Nodup := by
  simp only [List.map_append, List.map_cons, List.nodup_append, List.nodup_cons, List.mem_map, List.mem_cons, List.map_nil, List.not_mem_nil, List.nodup_nil, List.mem_append] at h ⊢
  obtain ⟨h1, ⟨h2, h3⟩, h4⟩ := h
  have a1 : ∀ e' ∈ A, e'.1 ≠ e.1 := fun e' he => h4 _ ⟨e', he, rfl⟩ _ (Or.inl rfl)
  have a2 : ∀ e' ∈ B, e'.1 ≠ e.1 := fun e' he h => h2 ⟨e', he, h⟩
  have a3 : ∀ (a : K), (∃ a_1, a_1 ∈ A ∧ a_1.fst = a) → ∀ (b : K), (∃ a, a ∈ B ∧ a.fst = b) → a ≠ b := fun a ha b hb => h4 a ha b (Or.inr hb)
  refine ⟨a1, a2, ⟨h1, h3, a3⟩, ⟨h1, h3, a3⟩, ⟨not_false, trivial⟩, ?_⟩
  rintro a ha b (rfl | hb)
  · rcases ha with ⟨x, hx, rfl⟩ | ⟨x, hx, rfl⟩
    · exact a1 x hx
    · exact a2 x hx
  · exact hb.elim
def RmS (w : World) (o : Nat) (m : Option Nat) (most : Int) (A B : List E) (e : E) (w3 : World) : Prop :=
  Ln w3 o most m (A ++ B) ∧ Touch (fpL o (A ++ e :: B)) w w3 ∧ ∃ a z, Nd w3 e.2 e.1 a z
theorem rm (w w2 : World) (o : Nat) (m : Option Nat) (most : Int) (A B : List E) (e : E) (h : Od w o m most (A ++ e :: B)) (t : Touch [] w w2) :
    Calls Tryz.prog 117 #[LP o, PT e.2] w2 fun x w' => x = .returned (.tuple #[]) ∧ RmS w o m most A B e w' := by
  have h2 := h.keep0 t
  refine (remove34 w2 o most m A B e h2.ln).mono ?_
  rintro x w' ⟨rfl, h3, t3, hk⟩
  obtain ⟨a, z, hn⟩ := h2.ln.sg.mem e (by simp)
  exact ⟨rfl, h3, (t.mono (fun _ e => by cases e)).trans' t3, a, z, hn.keep hk⟩
def TcQ (w : World) (o : Nat) (m : Option Nat) (most : Int) (A B : List E) (e : E) (w' : World) : Prop :=
  Od w' o m most (A ++ B ++ [e]) ∧ Touch (fp o m (A ++ e :: B)) w w'
theorem touch_end (w w3 : World) (o : Nat) (m : Option Nat) (most : Int) (A B : List E) (e : E) (h : Od w o m most (A ++ e :: B)) (t : RmS w o m most A B e w3) :
    Calls Tryz.prog 135 #[LP o, PT e.2] w3 fun x w' => x = .returned (.tuple #[]) ∧ TcQ w o m most A B e w' := by
  obtain ⟨h3, t3, a, z, hn⟩ := t
  obtain ⟨q1, q2, q3, q4, q5⟩ := nb_ne h.ln.nb
  refine (add35 w3 o most m (A ++ B) e a z h3 hn (fun e' he => (List.mem_append.1 he).elim (q1 e') (q2 e'))).mono ?_
  rintro x w' ⟨rfl, h4, t4⟩
  have hsub : ∀ i, i ∈ e.2 :: fpL o (A ++ B) → i ∈ fpL o (A ++ e :: B) := fun i hi => by
    simp only [fpL, List.mem_cons, List.map_append, List.mem_append, List.map_cons] at hi ⊢
    rcases hi with hi | hi | hi | hi
    · exact Or.inr (Or.inr (Or.inl hi))
    · exact Or.inl hi
    · exact Or.inr (Or.inl hi)
    · exact Or.inr (Or.inr (Or.inr hi))
  have tt : Touch (fpL o (A ++ e :: B)) w w' := t3.trans' (t4.mono hsub)
  refine ⟨rfl, ⟨h4, (nd_mid h.nd).2.2.2, fun e' he => h.ok e' ?_, ?_⟩, tt.mono (fun i hi => fpL_fp hi)⟩
  · simp only [List.mem_append, List.mem_cons, List.not_mem_nil, or_false] at he ⊢
    rcases he with (he | he) | he
    · exact Or.inl he
    · exact Or.inr (Or.inr he)
    · exact Or.inr (Or.inl he)
  · rcases h.mp with ⟨_, e0⟩ | ⟨b, f, rfl, hm, hf⟩
    · simp at e0
    · refine Or.inr ⟨b, f, rfl, ?_, fun e' he => hf.1 e' ?_, fun k hk => hf.2 k (fun h => hk ?_)⟩
      · have : (A ++ B ++ [e]).length = (A ++ e :: B).length := by simp only [List.length_append, List.length_cons, List.length_nil]; omega
        rw [this]
        exact hm.kept (tt.block b hm.lt (mapAt_away h hm))
      · simp only [List.mem_append, List.mem_cons, List.not_mem_nil, or_false] at he ⊢
        rcases he with (he | he) | he
        · exact Or.inl he
        · exact Or.inr (Or.inr he)
        · exact Or.inr (Or.inl he)
      · simp only [List.map_append, List.map_cons, List.map_nil, List.mem_append, List.mem_cons, List.not_mem_nil, or_false] at h ⊢
        rcases h with h | h | h
        · exact Or.inl (Or.inl h)
        · exact Or.inr h
        · exact Or.inl (Or.inr h)
theorem touch17_no (w : World) (o : Nat) (m : Option Nat) (most : Int) (L : List E) (k : K) (hk : Ok k) (hn : ¬ k ∈ L.map Prod.fst) (h : Od w o m most L) : Calls Tryz.prog 120 #[PT o, kv k] w fun x w' => x = .returned (.bool false) ∧ Touch [] w w' := by
  have HH := hid (has19_no (w.alloc (bx k)) o m most L k hk hn (h.keep0 ((Touch.refl _ _).alloc _)))
  clear h
  unfold PT kv bx at *
  go_enter Tryz.func120, Tryz.ntmps120
  go_wp2_with (go_at_call 116; refine HH.out.mono ?_; rintro x w2 ⟨rfl, t2⟩)
  go_ret
  exact ⟨rfl, ((Touch.refl _ _).alloc _).trans' t2⟩
set_option maxHeartbeats 2000000 in
theorem touch17_yes (w : World) (o : Nat) (m : Option Nat) (most : Int) (A B : List E) (e : E) (h : Od w o m most (A ++ e :: B)) : Calls Tryz.prog 120 #[PT o, kv e.1] w fun x w' => x = .returned (.bool true) ∧ TcQ w o m most A B e w' := by
  have T0 : Touch [] w (w.alloc (bx e.1)) := (Touch.refl _ _).alloc _
  have HH := hid (has19_yes (w.alloc (bx e.1)) o m most _ e (by simp) (h.keep0 T0))
  have HR := hid (fun w2 t => rm w w2 o m most A B e h t)
  have HA := hid (fun w3 t => touch_end w w3 o m most A B e h t)
  have HC : Hid (∀ w2, Touch [] w w2 → w2.cell? ⟨o, 1, none⟩ = some (.map m) ∧ (Instr.lookup 192 (.map m) (kv e.1) false).run Tryz.prog w2 = .ok (PT e.2) w2) := fun w2 t => ⟨(h.keep0 t).ln.oc.c1, (h.keep0 t).look_yes (by simp)⟩
  have HB := hid (box_cells w e.1)
  clear h
  unfold PT kv LP bx at *
  go_enter Tryz.func120, Tryz.ntmps120
  go_wp2_with (go_at_call 116; refine HH.out.mono ?_; rintro x w2 ⟨rfl, t2⟩; have T2 := T0.trans' t2; have c1 := (HC.out w2 T2).1; have hl := fun n => (HC.out (w2.drewN n) (T2.drewN n)).2; obtain ⟨b0, b1⟩ := HB.out w2 t2; clear t2)
  go_quiet (fail)
  go_wp2_with (first
    | (go_at_call 117; refine (HR.out _ (T2.drewN _)).mono ?_; rintro x w3 ⟨rfl, r3⟩; have R3 := hid r3; clear r3)
    | (go_at_call 135; refine (HA.out _ R3.out).mono ?_; rintro x w4 ⟨rfl, r4⟩; have R4 := hid r4; clear r4))
  go_ret
  exact ⟨rfl, R4.out⟩
end Go.Proofs.YtpefbmheblfbeaaGreat.Me
/- The contracts of Drop and leave; no conditions but those that each states. -/
namespace Go.Proofs.YtpefbmheblfbeaaGreat.Me
open Go.RowKit Go.Sort Go.Maps Go.ChangeMaps Go.WideMaps
set_option maxRecDepth 100000
set_option linter.unusedVariables false
set_option linter.unusedSimpArgs false
theorem drop18_no (w : World) (o : Nat) (m : Option Nat) (most : Int) (L : List E) (k : K) (hk : Ok k) (hn : ¬ k ∈ L.map Prod.fst) (h : Od w o m most L) : Calls Tryz.prog 77 #[PT o, kv k] w fun x w' => x = .returned (.bool false) ∧ Touch [] w w' := by
  have HH := hid (has19_no (w.alloc (bx k)) o m most L k hk hn (h.keep0 ((Touch.refl _ _).alloc _)))
  clear h
  unfold PT kv bx at *
  go_enter Tryz.func77, Tryz.ntmps77
  go_wp2_with (go_at_call 116; refine HH.out.mono ?_; rintro x w2 ⟨rfl, t2⟩)
  go_ret
  exact ⟨rfl, ((Touch.refl _ _).alloc _).trans' t2⟩
theorem Mf.pop {f : K → Option Value} {A B : List E} {e : E} (h : Mf f (A ++ e :: B)) (hn : ((A ++ e :: B).map Prod.fst).Nodup) : Mf (del f e.1) (A ++ B) := by
  obtain ⟨q1, q2, _, _⟩ := nd_mid hn
  refine ⟨fun e' he => ?_, fun j hj => ?_⟩
  · unfold del
    rw [List.mem_append] at he
    rw [if_neg (he.elim (q1 e') (q2 e'))]
    exact h.1 e' (by simp only [List.mem_append, List.mem_cons]; exact he.elim Or.inl (fun h => Or.inr (Or.inr h)))
  · unfold del
    by_cases ej : j = e.1
    · rw [if_pos ej]
    · rw [if_neg ej]
      refine h.2 j (fun h' => hj ?_)
      simp only [List.map_append, List.map_cons, List.mem_append, List.mem_cons] at h' ⊢
      rcases h' with h' | h' | h'
      · exact Or.inl h'
      · exact absurd h' ej
      · exact Or.inr h'
def DpQ (w : World) (o : Nat) (m : Option Nat) (most : Int) (A B : List E) (e : E) (w' : World) : Prop :=
  Od w' o m most (A ++ B) ∧ Touch (fp o m (A ++ e :: B)) w w'
theorem drop_end {w w3 : World} {o b : Nat} {most : Int} {A B : List E} {e : E} {f : K → Option Value} (h : Od w o (some b) most (A ++ e :: B)) (hm : MapAt w b (A ++ e :: B).length f) (hf : Mf f (A ++ e :: B)) (t : RmS w o (some b) most A B e w3) :
    MapAt w3 b (A ++ e :: B).length f ∧ ∀ ob, MapAt (setBlock w3.drew b ob) b (if (f e.1).isSome then (A ++ e :: B).length - 1 else (A ++ e :: B).length) (YtpefbmheblfbeaaGreat.Me.del f e.1) → DpQ w o (some b) most A B e (setBlock w3.drew b ob) := by
  obtain ⟨h3, t3, a, z, hn⟩ := t
  have hm3 := hm.kept (t3.block b hm.lt (mapAt_away h hm))
  refine ⟨hm3, fun ob hs => ?_⟩
  have hbl : ∀ q ∈ fpL o (A ++ B), q ≠ b := fun q hq => by
    obtain ⟨cs, t, fr, hc⟩ := h3.cells q hq
    exact Ne.symm (hm3.ne_block hc)
  refine ⟨⟨Ln.setMap (w := w3.drew) (h3.heap rfl) hbl ob, (nd_mid h.nd).2.2.1, fun e' he => h.ok e' ?_, Or.inr ⟨b, _, rfl, ?_, hf.pop h.nd⟩⟩, ?_⟩
  · simp only [List.mem_append, List.mem_cons] at he ⊢
    exact he.elim Or.inl (fun h => Or.inr (Or.inr h))
  · rw [hf.1 e (by simp)] at hs
    have : (A ++ B).length = (A ++ e :: B).length - 1 := by simp only [List.length_append, List.length_cons]; omega
    rw [this]
    exact hs
  · exact touch_setBlock ((t3.mono (fun i hi => fpL_fp hi)).drew) (Or.inl (by simp [fp])) ob
set_option maxHeartbeats 4000000 in
theorem drop18_yes (w : World) (o : Nat) (m : Option Nat) (most : Int) (A B : List E) (e : E) (h : Od w o m most (A ++ e :: B)) : Calls Tryz.prog 77 #[PT o, kv e.1] w fun x w' => x = .returned (.bool true) ∧ DpQ w o m most A B e w' := by
  obtain ⟨b, f, rfl, hm, hf⟩ : ∃ b f, m = some b ∧ MapAt w b (A ++ e :: B).length f ∧ Mf f (A ++ e :: B) := by
    rcases h.mp with ⟨_, e0⟩ | e0
    · simp at e0
    · exact e0
  have T0 : Touch [] w (w.alloc (bx e.1)) := (Touch.refl _ _).alloc _
  have HH := hid (has19_yes (w.alloc (bx e.1)) o (some b) most _ e (by simp) (h.keep0 T0))
  have HR : Hid (∀ w2, Touch [] w w2 → Calls Tryz.prog 117 #[LP o, PT e.2] w2 fun x w' => x = .returned (.tuple #[]) ∧ RmS w2 o (some b) most A B e w') := fun w2 t => rm w2 w2 o (some b) most A B e (h.keep0 t) (Touch.refl _ _)
  have HC : Hid (∀ w2, Touch [] w w2 → w2.cell? ⟨o, 1, none⟩ = some (.map (some b)) ∧ (Instr.lookup 192 (.map (some b)) (kv e.1) false).run Tryz.prog w2 = .ok (PT e.2) w2) := fun w2 t => ⟨(h.keep0 t).ln.oc.c1, (h.keep0 t).look_yes (by simp)⟩
  have HB := hid (box_cells w e.1)
  have HD : Hid (∀ w2 w3, Touch [] (w.alloc (bx e.1)) w2 → RmS w2.drew o (some b) most A B e w3 → w3.cell? ⟨o, 1, none⟩ = some (.map (some b)) ∧ w3.cell? ⟨w.heap.size, 0, none⟩ = some (.int .u16 e.1.1) ∧ w3.cell? ⟨w.heap.size, 1, none⟩ = some (.string e.1.2) ∧
      ∀ ty, ∃ ob, (Builtin.delete_ #[192, 54] ty #[.map (some b), kv e.1]).run Tryz.prog w3.drew = .ok (.tuple #[]) (setBlock w3.drew b ob) ∧ DpQ w o (some b) most A B e (setBlock w3.drew b ob)) := fun w2 w3 t2 r3 => by
    have T2 : Touch [] w w2.drew := (T0.trans' t2).drew
    have h2 := h.keep0 T2
    have hm2 := hm.kept (T2.block b hm.lt (by simp))
    have r3' := r3
    obtain ⟨h3, t3, a, z, hn⟩ := r3'
    have hbx : w3.heap[w.heap.size]? = some (bx e.1) := by
      have h1 := t2.keep (k := w.heap.size) (heap_alloc_new w (bx e.1)) (by simp)
      refine (t3.block _ ?_ (fun hh => ?_)).trans h1
      · exact block_lt (w := w2) h1
      · have := h.lt _ (fpL_fp hh)
        omega
    unfold bx at hbx
    refine ⟨h3.oc.c1, by simp [World.cell?, hbx], by simp [World.cell?, hbx], fun ty => ?_⟩
    obtain ⟨hm3, hD⟩ := drop_end h2 hm2 hf r3
    obtain ⟨ob, hu, hs⟩ := (show MapAt w3.drew b (A ++ e :: B).length f from hm3.kept rfl).del (t := 192) Tryz.underlying192 (h.ok e (by simp)) ty
    have := hD ob hs
    exact ⟨ob, hu, this.1, (T2.mono (fun _ e => by cases e)).trans' this.2⟩
  have hmx : Tryz.prog.follows .mixedOrders = true := by kernel_rfl
  clear h hm hf
  unfold PT kv LP bx at *
  go_enter Tryz.func77, Tryz.ntmps77
  go_wp2_with (go_at_call 116; refine HH.out.mono ?_; rintro x w2 ⟨rfl, t2⟩)
  have T2 := (T0.trans' t2).drew
  have c1 := (HC.out w2.drew T2).1
  have hl := (HC.out _ T2).2
  obtain ⟨b0, b1⟩ := HB.out w2.drew t2.drew
  go_region_with (go_at_call 117; refine (HR.out _ T2).mono ?_; rintro x w3 ⟨rfl, r3⟩; have R3 := hid r3; clear r3)
  all_goals
    obtain ⟨d1, d2, d3, d4⟩ := HD.out w2 w3 t2 R3.out
    obtain ⟨ob, hu, hd⟩ := d4 0
    have HQ := hid hd
    clear hd d4 c1 hl b0 b1
    generalize setBlock w3.drew b ob = W4 at *
    go_wp2
    go_region
    go_wp2
    go_ret
    exact ⟨rfl, HQ.out⟩
set_option maxHeartbeats 2000000 in
theorem leave31 (w : World) (o : Nat) (m : Option Nat) (most : Int) (x : E) (L : List E) (hl : L.length < 100000) (h : Od w o m most (x :: L)) : Calls Tryz.prog 139 #[PT o] w fun y w' => y = .returned (kv x.1) ∧ DpQ w o m most [] L x w' := by
  have HO : Hid (∀ w2, Touch [] w w2 → Calls Tryz.prog 151 #[PT o] w2 fun e w' => e = .returned (.tuple #[kv x.1, .bool true]) ∧ Touch [] w2 w') := fun w2 t => oldest16_cons w2 o m most x L hl (h.keep0 t)
  have HD : Hid (∀ w2, Touch [] w w2 → Calls Tryz.prog 77 #[PT o, kv x.1] w2 fun e w' => e = .returned (.bool true) ∧ DpQ w2 o m most [] L x w') := fun w2 t => drop18_yes w2 o m most [] L x (h.keep0 t)
  have HF : Hid (∀ k, k ∈ fp o m (x :: L) → k < w.heap.size) := h.lt
  clear h
  unfold PT kv at *
  go_enter Tryz.func139, Tryz.ntmps139
  go_wp2_with (go_at_call 151; refine (HO.out _ ((Touch.refl _ _).alloc _)).mono ?_; rintro y w2 ⟨rfl, t2⟩)
  have tw2 : Touch [] w w2 := ((Touch.refl _ _).alloc _).trans' t2
  refine (HD.out _ (tw2.alloc _)).mono ?_
  rintro y w3 ⟨rfl, r3⟩
  have hz2 := tw2.size
  have k1 : w3.heap[w2.heap.size]? = some (.cells #[.int .u16 x.1.1, .string x.1.2] 54 (0, 0)) := r3.2.keep (heap_alloc_new w2 _) (fun hh => by have := HF.out _ hh; omega)
  have k2 : w3.heap[w.heap.size]? = some (.cells #[.int .u16 0, .string ⟨#[]⟩] 54 (0, 0)) := by
    have h1 := t2.keep (k := w.heap.size) (heap_alloc_new w (.cells #[.int .u16 0, .string ⟨#[]⟩] 54)) (by simp)
    refine r3.2.keep ((Below.heap_alloc _ _ _ (block_lt h1)).trans h1) (fun hh => by have := HF.out _ hh; omega)
  have a0 : w3.cell? ⟨w2.heap.size, 0, none⟩ = some (.int .u16 x.1.1) := by simp [World.cell?, k1]
  have a1 : w3.cell? ⟨w2.heap.size, 1, none⟩ = some (.string x.1.2) := by simp [World.cell?, k1]
  have a2 : w3.cell? ⟨w.heap.size, 0, none⟩ = some (.int .u16 0) := by simp [World.cell?, k2]
  have a3 : w3.cell? ⟨w.heap.size, 1, none⟩ = some (.string ⟨#[]⟩) := by simp [World.cell?, k2]
  have a4 : ∀ i, w3.frozen? ⟨w.heap.size, i, none⟩ = false := fun i => by simp [World.frozen?, k2]
  have f0 := a4 0
  have f1 := a4 1
  have R : Hid (DpQ w o m most [] L x ((w3.setCell ⟨w.heap.size, 0, none⟩ (.int .u16 x.1.1)).setCell ⟨w.heap.size, 1, none⟩ (.string x.1.2))) := by
    have t5 : Touch [w.heap.size] w3 ((w3.setCell ⟨w.heap.size, 0, none⟩ (.int .u16 x.1.1)).setCell ⟨w.heap.size, 1, none⟩ (.string x.1.2)) := ((Touch.refl _ _).setCell (by simp) _).setCell (by simp) _
    refine ⟨r3.1.keep t5 (fun k hk hh => ?_), ((((tw2.alloc _).mono (fun _ e => by cases e)).trans' r3.2).trans t5 (fun i hi => by simp only [List.mem_singleton] at hi; subst hi; exact Or.inr (Nat.le_refl _)))⟩
    simp only [List.mem_singleton] at hh
    subst hh
    have : w.heap.size ∈ fp o m (x :: L) := by
      simp only [fp, List.nil_append, List.mem_cons, List.mem_append, List.map_cons] at hk ⊢
      rcases hk with hk | hk | hk
      · exact Or.inl hk
      · exact Or.inr (Or.inl hk)
      · exact Or.inr (Or.inr (Or.inr hk))
    have := HF.out _ this
    omega
  clear r3 k1 k2 a4 t2 tw2
  go_wp2
  refine bodyPost_ret (v := .agg #[.int .u16 x.1.1, .string x.1.2]) (by simp [results, Tryz.results139, go_sem, a2, a3]) rfl ⟨rfl, ?_⟩
  exact R.out
end Go.Proofs.YtpefbmheblfbeaaGreat.Me
/- An order as a plain list of keys: what Touch, Drop, Has, Len, Most, Oldest, enter and leave make of it; no conditions but those that each states. -/
namespace Go.Proofs.YtpefbmheblfbeaaGreat.Me
open Go.RowKit Go.Sort Go.Maps Go.ChangeMaps Go.WideMaps
set_option maxRecDepth 100000
set_option linter.unusedVariables false
set_option linter.unusedSimpArgs false
def Oq (w : World) (o : Nat) (F : List Nat) (most : Int) (xs : List K) : Prop := ∃ m L, F = fp o m L ∧ xs = L.map Prod.fst ∧ Od w o m most L
def dr (xs : List K) (k : K) : List K := xs.filter (fun x => decide (x ≠ k))
def hs (xs : List K) (k : K) : Bool := xs.any (fun x => decide (x = k))
theorem hs_yes {xs : List K} {k : K} (h : k ∈ xs) : hs xs k = true := by
  unfold hs
  rw [List.any_eq_true]
  exact ⟨k, h, decide_eq_true rfl⟩
theorem hs_no {xs : List K} {k : K} (h : ¬ k ∈ xs) : hs xs k = false := by
  unfold hs
  rw [List.any_eq_false]
  intro x hx
  simp only [decide_eq_true_eq]
  exact fun e => h (e ▸ hx)
theorem dr_no {xs : List K} {k : K} (h : ¬ k ∈ xs) : dr xs k = xs := by
  unfold dr
  rw [List.filter_eq_self]
  intro a ha
  exact decide_eq_true (fun e => h (e ▸ ha))
theorem dr_mid {A B : List K} {k : K} (ha : ∀ x ∈ A, x ≠ k) (hb : ∀ x ∈ B, x ≠ k) : dr (A ++ k :: B) k = A ++ B := by
  unfold dr
  rw [List.filter_append, List.filter_cons]
  simp only [ne_eq, not_true_eq_false, decide_false, Bool.false_eq_true, if_false]
  have h1 : List.filter (fun x => decide (¬ x = k)) A = A := List.filter_eq_self.2 (fun x hx => decide_eq_true (ha x hx))
  have h2 : List.filter (fun x => decide (¬ x = k)) B = B := List.filter_eq_self.2 (fun x hx => decide_eq_true (hb x hx))
  rw [h1, h2]
theorem dr_pairs {A B : List E} {e : E} (h : ((A ++ e :: B).map Prod.fst).Nodup) : dr ((A ++ e :: B).map Prod.fst) e.1 = (A ++ B).map Prod.fst := by
  obtain ⟨q1, q2, _, _⟩ := nd_mid h
  rw [List.map_append, List.map_cons, dr_mid, List.map_append]
  · intro x hx
    obtain ⟨e', he, rfl⟩ := List.mem_map.1 hx
    exact q1 e' he
  · intro x hx
    obtain ⟨e', he, rfl⟩ := List.mem_map.1 hx
    exact q2 e' he
section
variable {w w' : World} {o : Nat} {F G : List Nat} {most : Int} {xs : List K}
theorem Oq.keep (h : Oq w o F most xs) (ht : Touch G w w') (hn : ∀ k, k ∈ F → ¬ k ∈ G) : Oq w' o F most xs := by
  obtain ⟨m, L, rfl, rfl, t⟩ := h
  exact ⟨m, L, rfl, rfl, t.keep ht hn⟩
theorem Oq.keep0 (h : Oq w o F most xs) (ht : Touch [] w w') : Oq w' o F most xs := h.keep ht (fun _ _ e => by cases e)
theorem Oq.lt (h : Oq w o F most xs) : ∀ k, k ∈ F → k < w.heap.size := by
  obtain ⟨m, L, rfl, rfl, t⟩ := h
  exact t.lt
theorem Oq.nd (h : Oq w o F most xs) : xs.Nodup := by
  obtain ⟨m, L, rfl, rfl, t⟩ := h
  exact t.nd
theorem Oq.ok (h : Oq w o F most xs) : ∀ k ∈ xs, Ok k := by
  obtain ⟨m, L, rfl, rfl, t⟩ := h
  intro k hk
  obtain ⟨e, he, rfl⟩ := List.mem_map.1 hk
  exact t.ok e he
theorem Oq.mem (h : Oq w o F most xs) : o ∈ F := by
  obtain ⟨m, L, rfl, rfl, t⟩ := h
  simp [fp]
theorem Oq.c0 (h : Oq w o F most xs) : w.cell? ⟨o, 0, none⟩ = some (.int .i64 most) := by
  obtain ⟨m, L, rfl, rfl, t⟩ := h
  exact t.ln.oc.c0
end
def Ch (w : World) (o : Nat) (F : List Nat) (most : Int) (ys : List K) (w' : World) : Prop := ∃ F', Oq w' o F' most ys ∧ Touch F w w' ∧ Nf w F F'
theorem Ch.keep0 {w w1 w2 : World} {o : Nat} {F : List Nat} {most : Int} {ys : List K} (h : Ch w o F most ys w1) (t : Touch [] w1 w2) : Ch w o F most ys w2 := by
  obtain ⟨F', h1, h2, h3⟩ := h
  exact ⟨F', h1.keep0 t, h2.trans' (t.mono (fun _ e => by cases e)), h3⟩
theorem Ch.block {w w1 : World} {o : Nat} {F : List Nat} {most : Int} {ys : List K} (h : Ch w o F most ys w1) {k : Nat} {ob : Obj} (hk : w.heap[k]? = some ob) (hn : ¬ k ∈ F) : w1.heap[k]? = some ob := by
  obtain ⟨F', h1, h2, h3⟩ := h
  exact h2.keep hk hn
theorem Ch.own {w w1 w2 : World} {o : Nat} {F : List Nat} {most : Int} {ys : List K} (h : Ch w o F most ys w1) {r : Nat} (t : Touch [r] w1 w2) (w0 : World) (h0 : Touch [] w0 w) (hr : w0.heap.size ≤ r) (hr' : r < w.heap.size) (hF : ∀ k, k ∈ F → k < w0.heap.size) : Ch w0 o F most ys w2 := by
  obtain ⟨F', h1, h2, h3⟩ := h
  refine ⟨F', h1.keep t (fun k hk hh => ?_), ((h0.mono (fun _ e => by cases e)).trans' h2).trans t (fun i hi => by simp only [List.mem_singleton] at hi; subst hi; exact Or.inr hr), fun k hk => (h3 k hk).elim Or.inl (fun e => Or.inr (Nat.le_trans h0.size e))⟩
  simp only [List.mem_singleton] at hh
  subst hh
  rcases h3 k hk with e | e
  · have := hF k e; omega
  · omega
theorem lenO (w : World) (o : Nat) (F : List Nat) (most : Int) (xs : List K) (h : Oq w o F most xs) : Calls Tryz.prog 138 #[PT o] w fun x w' => x = .returned (.int .i64 xs.length) ∧ w' = w := by
  obtain ⟨m, L, rfl, rfl, t⟩ := h
  rw [List.length_map]
  exact len20 w o m most L t
def kz : K := (0, ⟨#[]⟩)
theorem touchO_no (w : World) (o : Nat) (F : List Nat) (most : Int) (xs : List K) (k : K) (hk : Ok k) (hn : ¬ k ∈ xs) (h : Oq w o F most xs) : Calls Tryz.prog 120 #[PT o, kv k] w fun x w' => x = .returned (.bool false) ∧ Touch [] w w' := by
  obtain ⟨m, L, rfl, rfl, t⟩ := h
  exact touch17_no w o m most L k hk hn t
theorem touchO_yes (w : World) (o : Nat) (F : List Nat) (most : Int) (xs : List K) (k : K) (hn : k ∈ xs) (h : Oq w o F most xs) : Calls Tryz.prog 120 #[PT o, kv k] w fun x w' => x = .returned (.bool true) ∧ Ch w o F most (dr xs k ++ [k]) w' := by
  obtain ⟨m, L, rfl, rfl, t⟩ := h
  obtain ⟨A, e, B, rfl, rfl⟩ := find_key hn
  refine (touch17_yes w o m most A B e t).mono ?_
  rintro x w' ⟨rfl, h1, h2⟩
  refine ⟨rfl, _, ⟨m, _, rfl, ?_, h1⟩, h2, fun i hi => Or.inl ?_⟩
  · rw [dr_pairs t.nd]; simp
  · simp only [fp, List.map_append, List.map_cons, List.map_nil, List.mem_cons, List.mem_append, List.not_mem_nil, or_false] at hi ⊢
    rcases hi with hi | hi | (hi | hi) | hi
    · exact Or.inl hi
    · exact Or.inr (Or.inl hi)
    · exact Or.inr (Or.inr (Or.inl hi))
    · exact Or.inr (Or.inr (Or.inr (Or.inr hi)))
    · exact Or.inr (Or.inr (Or.inr (Or.inl hi)))
theorem dropO_no (w : World) (o : Nat) (F : List Nat) (most : Int) (xs : List K) (k : K) (hk : Ok k) (hn : ¬ k ∈ xs) (h : Oq w o F most xs) : Calls Tryz.prog 77 #[PT o, kv k] w fun x w' => x = .returned (.bool false) ∧ Touch [] w w' := by
  obtain ⟨m, L, rfl, rfl, t⟩ := h
  exact drop18_no w o m most L k hk hn t
theorem fp_sub {o : Nat} {m : Option Nat} {A B : List E} {e : E} {i : Nat} (hi : i ∈ fp o m (A ++ B)) : i ∈ fp o m (A ++ e :: B) := by
  simp only [fp, List.map_append, List.map_cons, List.mem_cons, List.mem_append] at hi ⊢
  rcases hi with hi | hi | hi | hi
  · exact Or.inl hi
  · exact Or.inr (Or.inl hi)
  · exact Or.inr (Or.inr (Or.inl hi))
  · exact Or.inr (Or.inr (Or.inr (Or.inr hi)))
theorem dropO_yes (w : World) (o : Nat) (F : List Nat) (most : Int) (xs : List K) (k : K) (hn : k ∈ xs) (h : Oq w o F most xs) : Calls Tryz.prog 77 #[PT o, kv k] w fun x w' => x = .returned (.bool true) ∧ Ch w o F most (dr xs k) w' := by
  obtain ⟨m, L, rfl, rfl, t⟩ := h
  obtain ⟨A, e, B, rfl, rfl⟩ := find_key hn
  refine (drop18_yes w o m most A B e t).mono ?_
  rintro x w' ⟨rfl, h1, h2⟩
  exact ⟨rfl, _, ⟨m, _, rfl, (dr_pairs t.nd), h1⟩, h2, fun i hi => Or.inl (fp_sub hi)⟩
theorem enterO (w : World) (o : Nat) (F : List Nat) (most : Int) (xs : List K) (k : K) (hk : Ok k) (hn : ¬ k ∈ xs) (hl : xs.length < 100000) (h : Oq w o F most xs) : Calls Tryz.prog 112 #[PT o, kv k] w fun x w' => x = .returned (.tuple #[]) ∧ Ch w o F most (xs ++ [k]) w' := by
  obtain ⟨m, L, rfl, rfl, t⟩ := h
  refine (enter30 w o m most L k hk hn (by simpa using hl) t).mono ?_
  rintro x w' ⟨rfl, m', p, h1, h2, h3⟩
  exact ⟨rfl, _, ⟨m', _, rfl, by simp, h1⟩, h2, h3⟩
theorem leaveO (w : World) (o : Nat) (F : List Nat) (most : Int) (k : K) (xs : List K) (hl : xs.length < 100000) (h : Oq w o F most (k :: xs)) : Calls Tryz.prog 139 #[PT o] w fun x w' => x = .returned (kv k) ∧ Ch w o F most xs w' := by
  obtain ⟨m, L, rfl, hx, t⟩ := h
  cases L with
  | nil => cases hx
  | cons e L =>
    simp only [List.map_cons, List.cons.injEq] at hx
    obtain ⟨rfl, rfl⟩ := hx
    refine (leave31 w o m most e L (by simpa using hl) t).mono ?_
    rintro x w' ⟨rfl, h1, h2⟩
    exact ⟨rfl, _, ⟨m, _, rfl, rfl, h1⟩, h2, fun i hi => Or.inl (fp_sub (A := []) hi)⟩
end Go.Proofs.YtpefbmheblfbeaaGreat.Me
/- The contract of Use; the key may be, and there are at most seventy thousand. -/
namespace Go.Proofs.YtpefbmheblfbeaaGreat.Me
open Go.RowKit Go.Sort Go.Maps Go.ChangeMaps Go.WideMaps
set_option maxRecDepth 100000
set_option linter.unusedVariables false
set_option linter.unusedSimpArgs false
theorem ch_comp {w w1 w2 : World} {o : Nat} {F F1 : List Nat} {most : Int} {zs : List K} (a2 : Touch F w w1) (a3 : Nf w F F1) (h : Ch w1 o F1 most zs w2) : Ch w o F most zs w2 := by
  obtain ⟨F2, b1, b2, b3⟩ := h
  exact ⟨F2, b1, a2.trans b2 a3, a3.trans b3 a2.size⟩
set_option maxHeartbeats 4000000 in
theorem use11_yf (w : World) (o : Nat) (F : List Nat) (most : Int) (xs ys : List K) (k : K) (hk : Ok k) (h64 : k.2.size ≤ 64) (hl : xs.length ≤ 70000) (hy : ys = dr xs k ++ [k]) (hn : k ∈ xs) (hf : (ys.length : Int) ≤ most) (h : Oq w o F most xs) :
    Calls Tryz.prog 115 #[PT o, kv k] w fun e w' => e = .returned (.tuple #[kv kz, .bool false, .int .i64 0]) ∧ Ch w o F most ys w' := by
  have hF := hid h.lt
  obtain ⟨V, hV⟩ : ∃ V, V = (w.alloc (bx k)).alloc (bx kz) := ⟨_, rfl⟩
  have TV : Touch [] w V := by rw [hV]; exact ((Touch.refl _ _).alloc _).alloc _
  have B0 : V.heap[w.heap.size]? = some (bx k) := by rw [hV]; exact (Below.heap_alloc _ _ _ (by simp)).trans (heap_alloc_new w _)
  have B1 : V.heap[w.heap.size + 1]? = some (bx kz) := by
    rw [hV]
    have := heap_alloc_new (w.alloc (bx k)) (bx kz)
    rwa [World.size_alloc] at this
  have hz : w.heap.size + 1 < V.heap.size := by rw [hV]; simp
  have HC := hid (check29_ok V k h64)
  have hlen : ys.length < 100000 := by
    have := List.length_filter_le (fun x => decide (x ≠ k)) xs
    rw [hy]
    unfold dr
    simp only [List.length_append, List.length_singleton]
    omega
  have HT : Hid (∀ w2, Touch [] V w2 → Calls Tryz.prog 120 #[PT o, kv k] w2 fun x w' => x = .returned (.bool true) ∧ Ch w2 o F most ys w') := fun w2 t => by
    rw [hy]
    exact touchO_yes w2 o F most xs k hn (h.keep0 (TV.trans' t))
  have HL : Hid (∀ w2 w3, Ch w2 o F most ys w3 → Calls Tryz.prog 138 #[PT o] w3 fun x w' => x = .returned (.int .i64 ys.length) ∧ w' = w3) := fun w2 w3 c => by
    obtain ⟨F', c1, _⟩ := c
    exact lenO w3 o F' most _ c1
  have HM : Hid (∀ w2 w3, Ch w2 o F most ys w3 → w3.cell? ⟨o, 0, none⟩ = some (.int .i64 most)) := fun w2 w3 c => by
    obtain ⟨F', c1, _⟩ := c
    exact c1.c0
  have HB : Hid (∀ w2 w3 ys, Touch [] V w2 → Ch w2 o F most ys w3 → w3.heap[w.heap.size]? = some (bx k) ∧ w3.heap[w.heap.size + 1]? = some (bx kz)) := fun w2 w3 ys t c => by
    refine ⟨c.block (t.keep B0 (by simp)) (fun hh => ?_), c.block (t.keep B1 (by simp)) (fun hh => ?_)⟩
    · have := hF.out _ hh; omega
    · have := hF.out _ hh; omega
  have HK : Hid (∀ w2, Touch [] V w2 → w2.cell? ⟨w.heap.size, 0, none⟩ = some (.int .u16 k.1) ∧ w2.cell? ⟨w.heap.size, 1, none⟩ = some (.string k.2)) := fun w2 t => by
    have h1 := t.keep B0 (by simp)
    unfold bx at h1
    simp [World.cell?, h1]
  have HZ : Hid (∀ w2 w3, Touch [] V w2 → Ch w2 o F most ys w3 → (w3.cell? ⟨w.heap.size + 1, 0, none⟩ = some (.int .u16 0) ∧ w3.cell? ⟨w.heap.size + 1, 1, none⟩ = some (.string ⟨#[]⟩) ∧ w3.frozen? ⟨w.heap.size + 1, 0, none⟩ = false ∧ w3.frozen? ⟨w.heap.size + 1, 1, none⟩ = false) ∧ Ch w o F most ys ((w3.setCell ⟨w.heap.size + 1, 0, none⟩ (.int .u16 kz.1)).setCell ⟨w.heap.size + 1, 1, none⟩ (.string kz.2))) := fun w2 w3 t c => by
    have h1 := (HB.out w2 w3 _ t c).2
    unfold bx at h1
    refine ⟨⟨by simp [World.cell?, h1, kz], by simp [World.cell?, h1, kz], by simp [World.frozen?, h1], by simp [World.frozen?, h1]⟩, ?_⟩
    refine c.own (r := w.heap.size + 1) (((Touch.refl _ _).setCell (by simp) _).setCell (by simp) _) w (TV.trans' t) (by omega) (by have := t.size; omega) hF.out
  have TR : Hid (Touch [] V V) := Touch.refl _ _
  have hlI : (ys.length : Int) < 100000 := by omega
  clear h hk h64 hl hlen TV B0 B1 hz hF hy hn
  generalize (ys.length : Int) = n at *
  subst hV
  unfold PT kv at *
  unfold bx at *
  unfold kz at *
  go_enter Tryz.func115, Tryz.ntmps115
  go_wp2_with (first
    | (go_at_call 113; refine HC.out.mono ?_; rintro x w2 ⟨rfl, t2⟩; obtain ⟨b0, b1⟩ := HK.out w2 t2; have T2 := hid t2; clear t2)
    | (go_at_call 120; refine (HT.out _ T2.out).mono ?_; rintro x w3 ⟨rfl, c3⟩; have C3 := hid c3; have m0 := HM.out _ _ c3; clear c3 b0 b1))
  go_quiet ((go_at_call 138; exact Calls.quiet_of_same (HL.out _ _ (C3.out.keep0 ((Touch.refl _ _).drewN _)))))
  have C4 := hid (C3.out.keep0 ((Touch.refl [] w3).drewN nq))
  obtain ⟨⟨z0, z1, z2, z3⟩, r⟩ := HZ.out _ _ T2.out C4.out
  have R := hid r
  clear r
  go_wp2
  exact bodyPost_ret (v := .tuple #[.agg #[.int .u16 0, .string ⟨#[]⟩], .bool false, .int .i64 0]) (by simp [results, Tryz.results115, go_sem, z0, z1]) rfl ⟨rfl, R.out⟩
set_option maxHeartbeats 4000000 in
theorem use11_yo (w : World) (o : Nat) (F : List Nat) (most : Int) (xs ys : List K) (k : K) (hk : Ok k) (h64 : k.2.size ≤ 64) (hl : xs.length ≤ 70000) (hy : ys = dr xs k ++ [k]) (hn : k ∈ xs) (hf : most < (ys.length : Int)) (g : K) (zs : List K) (hg : ys = g :: zs) (h : Oq w o F most xs) :
    Calls Tryz.prog 115 #[PT o, kv k] w fun e w' => e = .returned (.tuple #[kv g, .bool true, .int .i64 0]) ∧ Ch w o F most zs w' := by
  have hF := hid h.lt
  obtain ⟨V, hV⟩ : ∃ V, V = (w.alloc (bx k)).alloc (bx kz) := ⟨_, rfl⟩
  have TV : Touch [] w V := by rw [hV]; exact ((Touch.refl _ _).alloc _).alloc _
  have B0 : V.heap[w.heap.size]? = some (bx k) := by rw [hV]; exact (Below.heap_alloc _ _ _ (by simp)).trans (heap_alloc_new w _)
  have B1 : V.heap[w.heap.size + 1]? = some (bx kz) := by
    rw [hV]
    have := heap_alloc_new (w.alloc (bx k)) (bx kz)
    rwa [World.size_alloc] at this
  have hz : w.heap.size + 1 < V.heap.size := by rw [hV]; simp
  have HC := hid (check29_ok V k h64)
  have hlen : ys.length < 100000 := by
    have := List.length_filter_le (fun x => decide (x ≠ k)) xs
    rw [hy]
    unfold dr
    simp only [List.length_append, List.length_singleton]
    omega
  have HT : Hid (∀ w2, Touch [] V w2 → Calls Tryz.prog 120 #[PT o, kv k] w2 fun x w' => x = .returned (.bool true) ∧ Ch w2 o F most ys w') := fun w2 t => by
    rw [hy]
    exact touchO_yes w2 o F most xs k hn (h.keep0 (TV.trans' t))
  have HL : Hid (∀ w2 w3, Ch w2 o F most ys w3 → Calls Tryz.prog 138 #[PT o] w3 fun x w' => x = .returned (.int .i64 ys.length) ∧ w' = w3) := fun w2 w3 c => by
    obtain ⟨F', c1, _⟩ := c
    exact lenO w3 o F' most _ c1
  have HM : Hid (∀ w2 w3, Ch w2 o F most ys w3 → w3.cell? ⟨o, 0, none⟩ = some (.int .i64 most)) := fun w2 w3 c => by
    obtain ⟨F', c1, _⟩ := c
    exact c1.c0
  have HV : Hid (∀ w2 w3, Ch w2 o F most ys w3 → Calls Tryz.prog 139 #[PT o] w3 fun x w' => x = .returned (kv g) ∧ Ch w2 o F most zs w') := fun w2 w3 c => by
    obtain ⟨F', c1, a2, a3⟩ := c
    rw [hg] at c1 hlen
    refine (leaveO w3 o F' most g zs (by simp at hlen; omega) c1).mono ?_
    rintro x w' ⟨rfl, c2⟩
    exact ⟨rfl, ch_comp a2 a3 c2⟩
  have HB : Hid (∀ w2 w3 ys, Touch [] V w2 → Ch w2 o F most ys w3 → w3.heap[w.heap.size]? = some (bx k) ∧ w3.heap[w.heap.size + 1]? = some (bx kz)) := fun w2 w3 ys t c => by
    refine ⟨c.block (t.keep B0 (by simp)) (fun hh => ?_), c.block (t.keep B1 (by simp)) (fun hh => ?_)⟩
    · have := hF.out _ hh; omega
    · have := hF.out _ hh; omega
  have HK : Hid (∀ w2, Touch [] V w2 → w2.cell? ⟨w.heap.size, 0, none⟩ = some (.int .u16 k.1) ∧ w2.cell? ⟨w.heap.size, 1, none⟩ = some (.string k.2)) := fun w2 t => by
    have h1 := t.keep B0 (by simp)
    unfold bx at h1
    simp [World.cell?, h1]
  have HZ : Hid (∀ w2 w3, Touch [] V w2 → Ch w2 o F most zs w3 → (w3.cell? ⟨w.heap.size + 1, 0, none⟩ = some (.int .u16 0) ∧ w3.cell? ⟨w.heap.size + 1, 1, none⟩ = some (.string ⟨#[]⟩) ∧ w3.frozen? ⟨w.heap.size + 1, 0, none⟩ = false ∧ w3.frozen? ⟨w.heap.size + 1, 1, none⟩ = false) ∧ Ch w o F most zs ((w3.setCell ⟨w.heap.size + 1, 0, none⟩ (.int .u16 g.1)).setCell ⟨w.heap.size + 1, 1, none⟩ (.string g.2))) := fun w2 w3 t c => by
    have h1 := (HB.out w2 w3 _ t c).2
    unfold bx at h1
    refine ⟨⟨by simp [World.cell?, h1, kz], by simp [World.cell?, h1, kz], by simp [World.frozen?, h1], by simp [World.frozen?, h1]⟩, ?_⟩
    refine c.own (r := w.heap.size + 1) (((Touch.refl _ _).setCell (by simp) _).setCell (by simp) _) w (TV.trans' t) (by omega) (by have := t.size; omega) hF.out
  have TR : Hid (Touch [] V V) := Touch.refl _ _
  have hlI : (ys.length : Int) < 100000 := by omega
  clear h hk h64 hl hlen TV B0 B1 hz hF hy hn
  generalize (ys.length : Int) = n at *
  subst hV
  unfold PT kv at *
  unfold bx at *
  unfold kz at *
  go_enter Tryz.func115, Tryz.ntmps115
  go_wp2_with (first
    | (go_at_call 113; refine HC.out.mono ?_; rintro x w2 ⟨rfl, t2⟩; obtain ⟨b0, b1⟩ := HK.out w2 t2; have T2 := hid t2; clear t2)
    | (go_at_call 120; refine (HT.out _ T2.out).mono ?_; rintro x w3 ⟨rfl, c3⟩; have C3 := hid c3; have m0 := HM.out _ _ c3; clear c3 b0 b1))
  go_quiet ((go_at_call 138; exact Calls.quiet_of_same (HL.out _ _ (C3.out.keep0 ((Touch.refl _ _).drewN _)))))
  have C4 := hid (C3.out.keep0 ((Touch.refl [] w3).drewN nq))
  go_wp2_with (go_at_call 139; refine (HV.out _ _ C4.out).mono ?_; rintro x w5 ⟨rfl, c5⟩; obtain ⟨⟨z0, z1, z2, z3⟩, r⟩ := HZ.out _ _ T2.out c5; have R := hid r; clear r c5)
  exact bodyPost_ret (v := .tuple #[.agg #[.int .u16 g.1, .string g.2], .bool true, .int .i64 0]) (by simp [results, Tryz.results115, go_sem, z0, z1]) rfl ⟨rfl, R.out⟩
set_option maxHeartbeats 4000000 in
theorem use11_nf (w : World) (o : Nat) (F : List Nat) (most : Int) (xs ys : List K) (k : K) (hk : Ok k) (h64 : k.2.size ≤ 64) (hl : xs.length ≤ 70000) (hy : ys = dr xs k ++ [k]) (hn : ¬ k ∈ xs) (hf : (ys.length : Int) ≤ most) (h : Oq w o F most xs) :
    Calls Tryz.prog 115 #[PT o, kv k] w fun e w' => e = .returned (.tuple #[kv kz, .bool false, .int .i64 0]) ∧ Ch w o F most ys w' := by
  have hF := hid h.lt
  obtain ⟨V, hV⟩ : ∃ V, V = (w.alloc (bx k)).alloc (bx kz) := ⟨_, rfl⟩
  have TV : Touch [] w V := by rw [hV]; exact ((Touch.refl _ _).alloc _).alloc _
  have B0 : V.heap[w.heap.size]? = some (bx k) := by rw [hV]; exact (Below.heap_alloc _ _ _ (by simp)).trans (heap_alloc_new w _)
  have B1 : V.heap[w.heap.size + 1]? = some (bx kz) := by
    rw [hV]
    have := heap_alloc_new (w.alloc (bx k)) (bx kz)
    rwa [World.size_alloc] at this
  have hz : w.heap.size + 1 < V.heap.size := by rw [hV]; simp
  have HC := hid (check29_ok V k h64)
  have hlen : ys.length < 100000 := by
    have := List.length_filter_le (fun x => decide (x ≠ k)) xs
    rw [hy]
    unfold dr
    simp only [List.length_append, List.length_singleton]
    omega
  have HT : Hid (∀ w2, Touch [] V w2 → Calls Tryz.prog 120 #[PT o, kv k] w2 fun x w' => x = .returned (.bool false) ∧ Touch [] w2 w') := fun w2 t => touchO_no w2 o F most xs k hk hn (h.keep0 (TV.trans' t))
  have HE : Hid (∀ w2, Touch [] V w2 → Calls Tryz.prog 112 #[PT o, kv k] w2 fun x w' => x = .returned (.tuple #[]) ∧ Ch w2 o F most ys w') := fun w2 t => by
    rw [hy, dr_no hn]
    exact enterO w2 o F most xs k hk hn (by omega) (h.keep0 (TV.trans' t))
  have HL : Hid (∀ w2 w3, Ch w2 o F most ys w3 → Calls Tryz.prog 138 #[PT o] w3 fun x w' => x = .returned (.int .i64 ys.length) ∧ w' = w3) := fun w2 w3 c => by
    obtain ⟨F', c1, _⟩ := c
    exact lenO w3 o F' most _ c1
  have HM : Hid (∀ w2 w3, Ch w2 o F most ys w3 → w3.cell? ⟨o, 0, none⟩ = some (.int .i64 most)) := fun w2 w3 c => by
    obtain ⟨F', c1, _⟩ := c
    exact c1.c0
  have HB : Hid (∀ w2 w3 ys, Touch [] V w2 → Ch w2 o F most ys w3 → w3.heap[w.heap.size]? = some (bx k) ∧ w3.heap[w.heap.size + 1]? = some (bx kz)) := fun w2 w3 ys t c => by
    refine ⟨c.block (t.keep B0 (by simp)) (fun hh => ?_), c.block (t.keep B1 (by simp)) (fun hh => ?_)⟩
    · have := hF.out _ hh; omega
    · have := hF.out _ hh; omega
  have HK : Hid (∀ w2, Touch [] V w2 → w2.cell? ⟨w.heap.size, 0, none⟩ = some (.int .u16 k.1) ∧ w2.cell? ⟨w.heap.size, 1, none⟩ = some (.string k.2)) := fun w2 t => by
    have h1 := t.keep B0 (by simp)
    unfold bx at h1
    simp [World.cell?, h1]
  have HZ : Hid (∀ w2 w3, Touch [] V w2 → Ch w2 o F most ys w3 → (w3.cell? ⟨w.heap.size + 1, 0, none⟩ = some (.int .u16 0) ∧ w3.cell? ⟨w.heap.size + 1, 1, none⟩ = some (.string ⟨#[]⟩) ∧ w3.frozen? ⟨w.heap.size + 1, 0, none⟩ = false ∧ w3.frozen? ⟨w.heap.size + 1, 1, none⟩ = false) ∧ Ch w o F most ys ((w3.setCell ⟨w.heap.size + 1, 0, none⟩ (.int .u16 kz.1)).setCell ⟨w.heap.size + 1, 1, none⟩ (.string kz.2))) := fun w2 w3 t c => by
    have h1 := (HB.out w2 w3 _ t c).2
    unfold bx at h1
    refine ⟨⟨by simp [World.cell?, h1, kz], by simp [World.cell?, h1, kz], by simp [World.frozen?, h1], by simp [World.frozen?, h1]⟩, ?_⟩
    refine c.own (r := w.heap.size + 1) (((Touch.refl _ _).setCell (by simp) _).setCell (by simp) _) w (TV.trans' t) (by omega) (by have := t.size; omega) hF.out
  have TR : Hid (Touch [] V V) := Touch.refl _ _
  have hlI : (ys.length : Int) < 100000 := by omega
  clear h hk h64 hl hlen TV B0 B1 hz hF hy hn
  generalize (ys.length : Int) = n at *
  subst hV
  unfold PT kv at *
  unfold bx at *
  unfold kz at *
  go_enter Tryz.func115, Tryz.ntmps115
  go_wp2_with (first
    | (go_at_call 113; refine HC.out.mono ?_; rintro x w2 ⟨rfl, t2⟩; obtain ⟨b0, b1⟩ := HK.out w2 t2; have T2 := hid t2; clear t2)
    | (go_at_call 120; refine (HT.out _ T2.out).mono ?_; rintro x w4 ⟨rfl, t4⟩; have T4 := hid (T2.out.trans' t4); clear t4 b0 b1; obtain ⟨b0, b1⟩ := HK.out w4 T4.out)
    | (go_at_call 112; refine (HE.out _ T4.out).mono ?_; rintro x w3 ⟨rfl, c3⟩; have C3 := hid c3; have m0 := HM.out _ _ c3; clear c3 b0 b1))
  go_quiet ((go_at_call 138; exact Calls.quiet_of_same (HL.out _ _ (C3.out.keep0 ((Touch.refl _ _).drewN _)))))
  have C4 := hid (C3.out.keep0 ((Touch.refl [] w3).drewN nq))
  obtain ⟨⟨z0, z1, z2, z3⟩, r⟩ := HZ.out _ _ T4.out C4.out
  have R := hid r
  clear r
  go_wp2
  exact bodyPost_ret (v := .tuple #[.agg #[.int .u16 0, .string ⟨#[]⟩], .bool false, .int .i64 0]) (by simp [results, Tryz.results115, go_sem, z0, z1]) rfl ⟨rfl, R.out⟩
set_option maxHeartbeats 4000000 in
theorem use11_no (w : World) (o : Nat) (F : List Nat) (most : Int) (xs ys : List K) (k : K) (hk : Ok k) (h64 : k.2.size ≤ 64) (hl : xs.length ≤ 70000) (hy : ys = dr xs k ++ [k]) (hn : ¬ k ∈ xs) (hf : most < (ys.length : Int)) (g : K) (zs : List K) (hg : ys = g :: zs) (h : Oq w o F most xs) :
    Calls Tryz.prog 115 #[PT o, kv k] w fun e w' => e = .returned (.tuple #[kv g, .bool true, .int .i64 0]) ∧ Ch w o F most zs w' := by
  have hF := hid h.lt
  obtain ⟨V, hV⟩ : ∃ V, V = (w.alloc (bx k)).alloc (bx kz) := ⟨_, rfl⟩
  have TV : Touch [] w V := by rw [hV]; exact ((Touch.refl _ _).alloc _).alloc _
  have B0 : V.heap[w.heap.size]? = some (bx k) := by rw [hV]; exact (Below.heap_alloc _ _ _ (by simp)).trans (heap_alloc_new w _)
  have B1 : V.heap[w.heap.size + 1]? = some (bx kz) := by
    rw [hV]
    have := heap_alloc_new (w.alloc (bx k)) (bx kz)
    rwa [World.size_alloc] at this
  have hz : w.heap.size + 1 < V.heap.size := by rw [hV]; simp
  have HC := hid (check29_ok V k h64)
  have hlen : ys.length < 100000 := by
    have := List.length_filter_le (fun x => decide (x ≠ k)) xs
    rw [hy]
    unfold dr
    simp only [List.length_append, List.length_singleton]
    omega
  have HT : Hid (∀ w2, Touch [] V w2 → Calls Tryz.prog 120 #[PT o, kv k] w2 fun x w' => x = .returned (.bool false) ∧ Touch [] w2 w') := fun w2 t => touchO_no w2 o F most xs k hk hn (h.keep0 (TV.trans' t))
  have HE : Hid (∀ w2, Touch [] V w2 → Calls Tryz.prog 112 #[PT o, kv k] w2 fun x w' => x = .returned (.tuple #[]) ∧ Ch w2 o F most ys w') := fun w2 t => by
    rw [hy, dr_no hn]
    exact enterO w2 o F most xs k hk hn (by omega) (h.keep0 (TV.trans' t))
  have HL : Hid (∀ w2 w3, Ch w2 o F most ys w3 → Calls Tryz.prog 138 #[PT o] w3 fun x w' => x = .returned (.int .i64 ys.length) ∧ w' = w3) := fun w2 w3 c => by
    obtain ⟨F', c1, _⟩ := c
    exact lenO w3 o F' most _ c1
  have HM : Hid (∀ w2 w3, Ch w2 o F most ys w3 → w3.cell? ⟨o, 0, none⟩ = some (.int .i64 most)) := fun w2 w3 c => by
    obtain ⟨F', c1, _⟩ := c
    exact c1.c0
  have HV : Hid (∀ w2 w3, Ch w2 o F most ys w3 → Calls Tryz.prog 139 #[PT o] w3 fun x w' => x = .returned (kv g) ∧ Ch w2 o F most zs w') := fun w2 w3 c => by
    obtain ⟨F', c1, a2, a3⟩ := c
    rw [hg] at c1 hlen
    refine (leaveO w3 o F' most g zs (by simp at hlen; omega) c1).mono ?_
    rintro x w' ⟨rfl, c2⟩
    exact ⟨rfl, ch_comp a2 a3 c2⟩
  have HB : Hid (∀ w2 w3 ys, Touch [] V w2 → Ch w2 o F most ys w3 → w3.heap[w.heap.size]? = some (bx k) ∧ w3.heap[w.heap.size + 1]? = some (bx kz)) := fun w2 w3 ys t c => by
    refine ⟨c.block (t.keep B0 (by simp)) (fun hh => ?_), c.block (t.keep B1 (by simp)) (fun hh => ?_)⟩
    · have := hF.out _ hh; omega
    · have := hF.out _ hh; omega
  have HK : Hid (∀ w2, Touch [] V w2 → w2.cell? ⟨w.heap.size, 0, none⟩ = some (.int .u16 k.1) ∧ w2.cell? ⟨w.heap.size, 1, none⟩ = some (.string k.2)) := fun w2 t => by
    have h1 := t.keep B0 (by simp)
    unfold bx at h1
    simp [World.cell?, h1]
  have HZ : Hid (∀ w2 w3, Touch [] V w2 → Ch w2 o F most zs w3 → (w3.cell? ⟨w.heap.size + 1, 0, none⟩ = some (.int .u16 0) ∧ w3.cell? ⟨w.heap.size + 1, 1, none⟩ = some (.string ⟨#[]⟩) ∧ w3.frozen? ⟨w.heap.size + 1, 0, none⟩ = false ∧ w3.frozen? ⟨w.heap.size + 1, 1, none⟩ = false) ∧ Ch w o F most zs ((w3.setCell ⟨w.heap.size + 1, 0, none⟩ (.int .u16 g.1)).setCell ⟨w.heap.size + 1, 1, none⟩ (.string g.2))) := fun w2 w3 t c => by
    have h1 := (HB.out w2 w3 _ t c).2
    unfold bx at h1
    refine ⟨⟨by simp [World.cell?, h1, kz], by simp [World.cell?, h1, kz], by simp [World.frozen?, h1], by simp [World.frozen?, h1]⟩, ?_⟩
    refine c.own (r := w.heap.size + 1) (((Touch.refl _ _).setCell (by simp) _).setCell (by simp) _) w (TV.trans' t) (by omega) (by have := t.size; omega) hF.out
  have TR : Hid (Touch [] V V) := Touch.refl _ _
  have hlI : (ys.length : Int) < 100000 := by omega
  clear h hk h64 hl hlen TV B0 B1 hz hF hy hn
  generalize (ys.length : Int) = n at *
  subst hV
  unfold PT kv at *
  unfold bx at *
  unfold kz at *
  go_enter Tryz.func115, Tryz.ntmps115
  go_wp2_with (first
    | (go_at_call 113; refine HC.out.mono ?_; rintro x w2 ⟨rfl, t2⟩; obtain ⟨b0, b1⟩ := HK.out w2 t2; have T2 := hid t2; clear t2)
    | (go_at_call 120; refine (HT.out _ T2.out).mono ?_; rintro x w4 ⟨rfl, t4⟩; have T4 := hid (T2.out.trans' t4); clear t4 b0 b1; obtain ⟨b0, b1⟩ := HK.out w4 T4.out)
    | (go_at_call 112; refine (HE.out _ T4.out).mono ?_; rintro x w3 ⟨rfl, c3⟩; have C3 := hid c3; have m0 := HM.out _ _ c3; clear c3 b0 b1))
  go_quiet ((go_at_call 138; exact Calls.quiet_of_same (HL.out _ _ (C3.out.keep0 ((Touch.refl _ _).drewN _)))))
  have C4 := hid (C3.out.keep0 ((Touch.refl [] w3).drewN nq))
  go_wp2_with (go_at_call 139; refine (HV.out _ _ C4.out).mono ?_; rintro x w5 ⟨rfl, c5⟩; obtain ⟨⟨z0, z1, z2, z3⟩, r⟩ := HZ.out _ _ T4.out c5; have R := hid r; clear r c5)
  exact bodyPost_ret (v := .tuple #[.agg #[.int .u16 g.1, .string g.2], .bool true, .int .i64 0]) (by simp [results, Tryz.results115, go_sem, z0, z1]) rfl ⟨rfl, R.out⟩
end Go.Proofs.YtpefbmheblfbeaaGreat.Me
/- Use as one plain function of a list; awake; what a nil order answers. No conditions but those that each states. -/
namespace Go.Proofs.YtpefbmheblfbeaaGreat.Me
open Go.RowKit Go.Sort Go.Maps Go.ChangeMaps Go.WideMaps
set_option maxRecDepth 100000
set_option linter.unusedVariables false
set_option linter.unusedSimpArgs false
def useY (xs : List K) (k : K) : List K := dr xs k ++ [k]
def useB (most : Int) (xs : List K) (k : K) : Bool := decide (most < ((useY xs k).length : Int))
def useL (most : Int) (xs : List K) (k : K) : List K := if useB most xs k then (useY xs k).tail else useY xs k
def useG (most : Int) (xs : List K) (k : K) : K := if useB most xs k then (useY xs k).headD kz else kz
theorem useO (w : World) (o : Nat) (F : List Nat) (most : Int) (xs : List K) (k : K) (hk : Ok k) (h64 : k.2.size ≤ 64) (hl : xs.length ≤ 70000) (h : Oq w o F most xs) :
    Calls Tryz.prog 115 #[PT o, kv k] w fun e w' => e = .returned (.tuple #[kv (useG most xs k), .bool (useB most xs k), .int .i64 0]) ∧ Ch w o F most (useL most xs k) w' := by
  by_cases hf : most < ((useY xs k).length : Int)
  · have e1 : useB most xs k = true := decide_eq_true hf
    obtain ⟨g, zs, hg⟩ : ∃ g zs, useY xs k = g :: zs := by
      cases hy : useY xs k with
      | nil => simp [useY] at hy
      | cons g zs => exact ⟨g, zs, rfl⟩
    have e2 : useG most xs k = g := by unfold useG; rw [e1, hg]; rfl
    have e3 : useL most xs k = zs := by unfold useL; rw [e1, hg]; rfl
    rw [e1, e2, e3]
    by_cases hm : k ∈ xs
    · exact use11_yo w o F most xs _ k hk h64 hl rfl hm hf g zs hg h
    · exact use11_no w o F most xs _ k hk h64 hl rfl hm hf g zs hg h
  · have e1 : useB most xs k = false := decide_eq_false hf
    have e2 : useG most xs k = kz := by unfold useG; rw [e1]; rfl
    have e3 : useL most xs k = useY xs k := by unfold useL; rw [e1]; rfl
    rw [e1, e2, e3]
    by_cases hm : k ∈ xs
    · exact use11_yf w o F most xs _ k hk h64 hl rfl hm (Int.not_lt.1 hf) h
    · exact use11_nf w o F most xs _ k hk h64 hl rfl hm (Int.not_lt.1 hf) h
end Go.Proofs.YtpefbmheblfbeaaGreat.Me
/- What a memo keeps as plain lists and functions: which outcomes may be and are kept, how an entry is at an age, entries by their keys; no conditions. -/
namespace Go.Proofs.YtpefbmheblfbeaaGreat.Me
open Go.RowKit Go.Sort Go.Maps Go.ChangeMaps Go.WideMaps
set_option maxRecDepth 100000
set_option linter.unusedVariables false
abbrev O := Int × Int × Int × Int
abbrev V := O × Int
abbrev En := K × V
def MT : Int := 4611686018427387904
structure Cf where
  t : Int
  n : Int
  s : Int
  e : Int
  f : Int
  b : Int
  d : Int
def ov (o : O) : Value := .agg #[.int .i64 o.1, .int .i64 o.2.1, .int .i64 o.2.2.1, .int .i64 o.2.2.2]
def ev (x : V) : Value := .agg #[.int .i64 x.1.1, .int .i64 x.1.2.1, .int .i64 x.1.2.2.1, .int .i64 x.1.2.2.2, .int .i64 x.2]
def nv (x : En) : Value := .agg #[.int .u16 x.1.1, .string x.1.2, .int .i64 x.2.1.1, .int .i64 x.2.1.2.1, .int .i64 x.2.1.2.2.1, .int .i64 x.2.1.2.2.2, .int .i64 x.2.2]
def cv (c : Cf) : Value := .agg #[.int .i64 c.t, .int .i64 c.n, .int .i64 c.s, .int .i64 c.e, .int .i64 c.f, .int .i64 c.b, .int .i64 c.d]
def sv (h a : Int) (o : O) : Value := .agg #[.int .i64 h, .int .i64 a, .int .i64 o.1, .int .i64 o.2.1, .int .i64 o.2.2.1, .int .i64 o.2.2.2]
def oz : O := (0, 0, 0, 0)
def mayF (kd cd rn : Int) : Bool :=
  if kd = 0 then decide (cd = 0) && decide (rn = 0) else if kd = 1 then decide (1 ≤ rn) else if kd = 2 then decide (1 ≤ rn)
  else if kd = 3 then decide (cd = 0) && decide (rn = 0) else if kd = 4 then decide (cd = 0) && decide (rn = 0)
  else if kd = 5 then decide (cd = 0) && decide (1 ≤ rn) else false
def nonF (kd cd rn : Int) : Bool := decide (kd = 0) && (decide (cd = 0) && decide (rn = 0))
def right (o : O) : Bool := mayF o.2.1 o.2.2.1 o.2.2.2 && (nonF o.2.1 o.2.2.1 o.2.2.2 || decide (o.1 = 0))
def okC (c : Cf) : Bool := decide (0 ≤ c.t ∧ 0 ≤ c.n ∧ 0 ≤ c.s ∧ 0 ≤ c.d ∧ 0 ≤ c.e ∧ c.e ≤ 65536 ∧ 1 ≤ c.f ∧ c.f ≤ 4096 ∧ 1 ≤ c.b ∧ c.b ≤ 1024)
def keepsC (c : Cf) (o : O) : Bool := if c.e = 0 then false else if o.2.1 = 0 then decide (0 < c.t) else if o.2.1 = 1 then decide (0 < c.n) else if o.2.1 = 2 then decide (0 < c.n) else false
def howC (c : Cf) (o : O) (age : Int) : Int :=
  if o.2.1 = 0 then (if age < c.t then 1 else if age < c.t + c.s then 2 else 3) else (if age < c.n then 1 else 3)
theorem right_none {o : O} (h : right o = true) : o.2.1 = 0 ↔ (o.2.1, o.2.2.1, o.2.2.2) = ((0, 0, 0) : Int × Int × Int) := by
  unfold right mayF at h
  constructor
  · intro e
    rw [if_pos e] at h
    simp only [Bool.and_eq_true, decide_eq_true_eq] at h
    obtain ⟨⟨h1, h2⟩, _⟩ := h
    rw [e, h1, h2]
  · intro e
    simp only [Prod.mk.injEq] at e
    exact e.1
def fnd : List En → K → Option V
  | [], _ => none
  | x :: l, k => if x.1 = k then some x.2 else fnd l k
def drx (xs : List En) (k : K) : List En := xs.filter (fun x => decide (x.1 ≠ k))
def keysL (xs : List En) : List K := xs.map Prod.fst
theorem drx_keys (xs : List En) (k : K) : keysL (drx xs k) = dr (keysL xs) k := by
  unfold keysL drx dr
  rw [List.filter_map]
  rfl
theorem fnd_none {xs : List En} {k : K} (h : ¬ k ∈ keysL xs) : fnd xs k = none := by
  induction xs with
  | nil => rfl
  | cons x l ih =>
    simp only [keysL, List.map_cons, List.mem_cons, not_or] at h
    simp only [fnd]
    rw [if_neg (fun e => h.1 e.symm)]
    exact ih h.2
theorem fnd_some {xs : List En} {k : K} (h : k ∈ keysL xs) : ∃ v, fnd xs k = some v ∧ (k, v) ∈ xs := by
  induction xs with
  | nil => simp [keysL] at h
  | cons x l ih =>
    simp only [fnd]
    by_cases e : x.1 = k
    · rw [if_pos e]
      exact ⟨x.2, rfl, by subst e; simp⟩
    · rw [if_neg e]
      simp only [keysL, List.map_cons, List.mem_cons] at h
      rcases h with h | h
      · exact absurd h.symm e
      · obtain ⟨v, h1, h2⟩ := ih h
        exact ⟨v, h1, List.mem_cons_of_mem _ h2⟩
theorem fnd_mem {xs : List En} {k : K} {v : V} (h : fnd xs k = some v) : (k, v) ∈ xs := by
  by_cases hk : k ∈ keysL xs
  · obtain ⟨v', h1, h2⟩ := fnd_some hk
    rw [h] at h1
    cases h1
    exact h2
  · rw [fnd_none hk] at h; cases h
theorem fnd_isSome (xs : List En) (k : K) : (fnd xs k).isSome = hs (keysL xs) k := by
  by_cases h : k ∈ keysL xs
  · obtain ⟨v, h1, _⟩ := fnd_some h
    rw [h1, hs_yes h]; rfl
  · rw [fnd_none h, hs_no h]; rfl
theorem fnd_of_mem {xs : List En} {x : En} (hn : (keysL xs).Nodup) (h : x ∈ xs) : fnd xs x.1 = some x.2 := by
  induction xs with
  | nil => cases h
  | cons y l ih =>
    simp only [keysL, List.map_cons, List.nodup_cons] at hn
    simp only [fnd]
    rcases List.mem_cons.1 h with e | e
    · subst e; rw [if_pos rfl]
    · rw [if_neg (fun e' => hn.1 (by rw [e']; exact List.mem_map_of_mem e))]
      exact ih hn.2 e
theorem fnd_drx_same (xs : List En) (k : K) : fnd (drx xs k) k = none := by
  apply fnd_none
  unfold keysL drx
  intro h
  obtain ⟨x, hx, rfl⟩ := List.mem_map.1 h
  have := (List.mem_filter.1 hx).2
  simp at this
theorem fnd_drx_other (xs : List En) {k j : K} (h : j ≠ k) : fnd (drx xs k) j = fnd xs j := by
  unfold drx
  induction xs with
  | nil => rfl
  | cons x l ih =>
    rw [List.filter_cons]
    by_cases e : x.1 = k
    · rw [if_neg (by simp [e])]
      rw [ih]
      simp only [fnd]
      rw [if_neg (fun e' => h (e'.symm.trans e))]
    · rw [if_pos (by simp [e])]
      simp only [fnd]
      rw [ih]
theorem fnd_snoc (xs : List En) (k : K) (v : V) (j : K) : fnd (xs ++ [(k, v)]) j = (fnd xs j).or (if k = j then some v else none) := by
  induction xs with
  | nil => simp [fnd]
  | cons x l ih =>
    simp only [List.cons_append, fnd]
    by_cases e : x.1 = j
    · simp [e]
    · simp [e, ih]
theorem fnd_tail {x : En} {l : List En} (hn : ¬ x.1 ∈ keysL l) (j : K) : fnd l j = if j = x.1 then none else fnd (x :: l) j := by
  by_cases e : j = x.1
  · rw [if_pos e, e]; exact fnd_none hn
  · rw [if_neg e]
    simp only [fnd]
    rw [if_neg (fun e' => e e'.symm)]
def putY (xs : List En) (k : K) (v : V) : List En := drx xs k ++ [(k, v)]
def putL (e : Int) (xs : List En) (k : K) (v : V) : List En := if useB e (keysL xs) k then (putY xs k v).tail else putY xs k v
theorem putY_keys (xs : List En) (k : K) (v : V) : keysL (putY xs k v) = useY (keysL xs) k := by
  unfold putY useY
  rw [← drx_keys]
  simp [keysL]
theorem putL_keys (e : Int) (xs : List En) (k : K) (v : V) : keysL (putL e xs k v) = useL e (keysL xs) k := by
  unfold putL useL
  split
  · rw [← putY_keys xs k v]; simp [keysL]
  · exact putY_keys xs k v
theorem fnd_putY (xs : List En) (k : K) (v : V) (j : K) : fnd (putY xs k v) j = if j = k then some v else fnd xs j := by
  unfold putY
  rw [fnd_snoc]
  by_cases e : j = k
  · subst e; rw [fnd_drx_same]; simp
  · rw [fnd_drx_other xs e, if_neg e, if_neg (fun h => e h.symm)]; simp
theorem keysL_len (xs : List En) : (keysL xs).length = xs.length := by simp [keysL]
structure Gd (c : Cf) (now : Int) (xs : List En) : Prop where
  oc : okC c = true
  wc : c.t ≤ 9223372036854775807 ∧ c.n ≤ 9223372036854775807 ∧ c.s ≤ 9223372036854775807
  n0 : 0 ≤ now
  n1 : now ≤ MT
  ok : ∀ x ∈ xs, right x.2.1 = true ∧ 0 ≤ x.2.2 ∧ x.2.2 ≤ now
  ln : (xs.length : Int) ≤ c.e
theorem okC_e {c : Cf} (h : okC c = true) : 0 ≤ c.e ∧ c.e ≤ 65536 := by
  unfold okC at h
  simp only [decide_eq_true_eq] at h
  omega
theorem okC_t {c : Cf} (h : okC c = true) : 0 ≤ c.t ∧ 0 ≤ c.n ∧ 0 ≤ c.s := by
  unfold okC at h
  simp only [decide_eq_true_eq] at h
  omega
theorem Gd.later {c : Cf} {now n2 : Int} {xs : List En} (h : Gd c now xs) (h1 : now ≤ n2) (h2 : n2 ≤ MT) : Gd c n2 xs :=
  ⟨h.oc, h.wc, by have := h.n0; omega, h2, fun x hx => by obtain ⟨a, b, d⟩ := h.ok x hx; exact ⟨a, b, by omega⟩, h.ln⟩
theorem Gd.sub {c : Cf} {now : Int} {xs ys : List En} (h : Gd c now xs) (hs : ∀ x ∈ ys, x ∈ xs) (hl : ys.length ≤ xs.length) : Gd c now ys :=
  ⟨h.oc, h.wc, h.n0, h.n1, fun x hx => h.ok x (hs x hx), by have := h.ln; omega⟩
theorem drx_le (xs : List En) (k : K) : (drx xs k).length ≤ xs.length := List.length_filter_le _ _
theorem Gd.drop {c : Cf} {now : Int} {xs : List En} (h : Gd c now xs) (k : K) : Gd c now (drx xs k) :=
  h.sub (fun x hx => (List.mem_filter.1 hx).1) (drx_le _ _)
theorem putL_len {c : Cf} {xs : List En} (h : (xs.length : Int) ≤ c.e) (h0 : 0 ≤ c.e) (k : K) (v : V) : ((putL c.e xs k v).length : Int) ≤ c.e := by
  have h1 : (putY xs k v).length ≤ xs.length + 1 := by
    unfold putY
    have := drx_le xs k
    simp only [List.length_append, List.length_singleton]
    omega
  have h2 : ((useY (keysL xs) k).length) = (putY xs k v).length := by rw [← putY_keys xs k v, keysL_len]
  unfold putL
  by_cases hb : useB c.e (keysL xs) k = true
  · rw [if_pos hb, List.length_tail]
    omega
  · rw [if_neg hb]
    unfold useB at hb
    simp only [decide_eq_true_eq] at hb
    omega
theorem mem_putY {xs : List En} {k : K} {v : V} {x : En} (h : x ∈ putY xs k v) : x ∈ xs ∨ x = (k, v) := by
  unfold putY at h
  rcases List.mem_append.1 h with h | h
  · exact Or.inl (List.mem_filter.1 h).1
  · exact Or.inr (by simpa using h)
theorem mem_putL {e : Int} {xs : List En} {k : K} {v : V} {x : En} (h : x ∈ putL e xs k v) : x ∈ xs ∨ x = (k, v) := by
  unfold putL at h
  split at h
  · exact mem_putY (List.mem_of_mem_tail h)
  · exact mem_putY h
theorem Gd.put {c : Cf} {now : Int} {xs : List En} (h : Gd c now xs) (k : K) (v : V) (hv : right v.1 = true ∧ 0 ≤ v.2 ∧ v.2 ≤ now) : Gd c now (putL c.e xs k v) :=
  ⟨h.oc, h.wc, h.n0, h.n1, fun x hx => by
    rcases mem_putL hx with e | e
    · exact h.ok x e
    · subst e; exact hv, putL_len h.ln (okC_e h.oc).1 k v⟩
end Go.Proofs.YtpefbmheblfbeaaGreat.Me
