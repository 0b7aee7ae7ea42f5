/- A line of places in memory as a plain list: what lies where, a place put behind all others, a place taken out; no conditions but those that each states. -/
import Derived.Test.YtopepalpmkeffaaBas
import Derived.Deep.AppendLies
import Derived.Deep.QuietTactic
import Derived.Deep.RegionHeld3
import Derived.Deep.RegionWith
import Derived.Lib.QuietBelow
import Derived.OwnWalk
namespace Go.Proofs.Ytopepalpmkeffaa
open Go.RowKit Go.Sort Go.Maps Go.ChangeMaps Go.WideMaps
set_option linter.unusedVariables false
set_option linter.unusedSimpArgs false

def PT (q : Nat) : Value := .pointer (some ⟨q, 0, none⟩)
def PP (p : Option Nat) : Value := .pointer (p.map fun q => ⟨q, 0, none⟩)
def LP (o : Nat) : Value := .pointer (some ⟨o, 2, none⟩)
def Nf (w : World) (F G : List Nat) : Prop := ∀ k, k ∈ G → k ∈ F ∨ w.heap.size ≤ k
theorem Nf.refl (w : World) (F : List Nat) : Nf w F F := fun _ h => Or.inl h
theorem Nf.trans {w w1 : World} {F G H : List Nat} (h : Nf w F G) (k : Nf w1 G H) (hz : w.heap.size ≤ w1.heap.size) : Nf w F H := fun i hi => by
  rcases k i hi with e | e
  · exact h i e
  · exact Or.inr (Nat.le_trans hz e)
def Nd (w : World) (p : Nat) (k : K) (a z : Option Nat) : Prop := w.heap[p]? = some (.cells #[.int .u16 k.1, .string k.2, PP a, PP z] 146 (0, 0))
section
variable {w : World} {p : Nat} {k : K} {a z : Option Nat}
theorem Nd.c0 (h : Nd w p k a z) : w.cell? ⟨p, 0, none⟩ = some (.int .u16 k.1) := by unfold Nd at h; simp [World.cell?, h]
theorem Nd.c1 (h : Nd w p k a z) : w.cell? ⟨p, 1, none⟩ = some (.string k.2) := by unfold Nd at h; simp [World.cell?, h]
theorem Nd.c2 (h : Nd w p k a z) : w.cell? ⟨p, 2, none⟩ = some (PP a) := by unfold Nd at h; simp [World.cell?, h]
theorem Nd.c3 (h : Nd w p k a z) : w.cell? ⟨p, 3, none⟩ = some (PP z) := by unfold Nd at h; simp [World.cell?, h]
theorem Nd.fr (h : Nd w p k a z) (i : Nat) : w.frozen? ⟨p, i, none⟩ = false := by unfold Nd at h; simp [World.frozen?, h]
theorem Nd.lt (h : Nd w p k a z) : p < w.heap.size := block_lt h
theorem bset {w : World} {g i : Nat} {cs : Array Value} {t : TypeId} {fr : Nat × Nat} (h : w.heap[g]? = some (.cells cs t fr)) (v : Value) : (w.setCell ⟨g, i, none⟩ v).heap[g]? = some (.cells (cs.setIfInBounds i v) t fr) := by
  simp [World.setCell, Array.getElem?_modify, h]
theorem Nd.set2 (h : Nd w p k a z) (x : Option Nat) : Nd (w.setCell ⟨p, 2, none⟩ (PP x)) p k x z := bset h _
theorem Nd.set3 (h : Nd w p k a z) (x : Option Nat) : Nd (w.setCell ⟨p, 3, none⟩ (PP x)) p k a x := bset h _
theorem Nd.keep {w' : World} (h : Nd w p k a z) (hk : w'.heap[p]? = w.heap[p]?) : Nd w' p k a z := hk.trans h
theorem Nd.key {k' : K} {a' z' : Option Nat} (h : Nd w p k a z) (h' : Nd w p k' a' z') : k = k' := by
  unfold Nd at h h'
  rw [h] at h'
  simp at h'
  exact Prod.ext h'.1 h'.2.1
end
abbrev E := K × Nat
def hd : List E → Option Nat → Option Nat
  | [], z => z
  | e :: _, _ => some e.2
def lst : List E → Option Nat → Option Nat
  | [], a => a
  | e :: l, _ => lst l (some e.2)
def Seg (w : World) : Option Nat → List E → Option Nat → Prop
  | _, [], _ => True
  | a, e :: l, z => Nd w e.2 e.1 a (hd l z) ∧ Seg w (some e.2) l z
theorem hd_append (A B : List E) (z : Option Nat) : hd (A ++ B) z = hd A (hd B z) := by cases A <;> rfl
theorem lst_append : ∀ (A B : List E) (a : Option Nat), lst (A ++ B) a = lst B (lst A a)
  | [], B, a => rfl
  | e :: A, B, a => by simp only [List.cons_append, lst]; exact lst_append A B _
theorem lst_snoc (A : List E) (e : E) (a : Option Nat) : lst (A ++ [e]) a = some e.2 := by rw [lst_append]; rfl
theorem seg_append {w : World} : ∀ (A B : List E) (a z : Option Nat), Seg w a (A ++ B) z ↔ Seg w a A (hd B z) ∧ Seg w (lst A a) B z
  | [], B, a, z => by simp [Seg, lst]
  | e :: A, B, a, z => by
    simp only [List.cons_append, Seg, lst, hd_append]
    rw [seg_append A B (some e.2) z]
    exact ⟨fun h => ⟨⟨h.1, h.2.1⟩, h.2.2⟩, fun h => ⟨h.1.1, h.1.2, h.2⟩⟩
theorem Seg.keep {w w' : World} : ∀ {L : List E} {a z : Option Nat}, Seg w a L z → (∀ e ∈ L, w'.heap[e.2]? = w.heap[e.2]?) → Seg w' a L z
  | [], _, _, _, _ => trivial
  | e :: l, a, z, h, hk => ⟨h.1.keep (hk e (by simp)), Seg.keep h.2 (fun e' he => hk e' (by simp [he]))⟩
theorem Seg.mem {w : World} : ∀ {L : List E} {a z : Option Nat}, Seg w a L z → ∀ e ∈ L, ∃ x y, Nd w e.2 e.1 x y
  | [], _, _, _, e, he => by cases he
  | e :: l, a, z, h, e', he => by
    rcases List.mem_cons.1 he with rfl | he
    · exact ⟨_, _, h.1⟩
    · exact Seg.mem h.2 e' he
/-- The last place's link is turned. -/
theorem Seg.next {w : World} {A : List E} {e : E} {a z : Option Nat} (h : Seg w a (A ++ [e]) z) (hn : ∀ e' ∈ A, e'.2 ≠ e.2) (x : Option Nat) : Seg (w.setCell ⟨e.2, 3, none⟩ (PP x)) a (A ++ [e]) x := by
  rw [seg_append] at h ⊢
  exact ⟨Seg.keep h.1 (fun e' he => Below.heap_setCell _ _ _ _ (hn e' he)), h.2.1.set3 x, trivial⟩
/-- The first place's link is turned. -/
theorem Seg.prev {w : World} {B : List E} {e : E} {a z : Option Nat} (h : Seg w a (e :: B) z) (hn : ∀ e' ∈ B, e'.2 ≠ e.2) (x : Option Nat) : Seg (w.setCell ⟨e.2, 2, none⟩ (PP x)) x (e :: B) z :=
  ⟨h.1.set2 x, Seg.keep h.2 (fun e' he => Below.heap_setCell _ _ _ _ (hn e' he))⟩
def OC (w : World) (o : Nat) (most : Int) (m : Option Nat) (f l : Option Nat) : Prop := w.heap[o]? = some (.cells #[.int .i64 most, .map m, PP f, PP l] 129 (0, 0))
section
variable {w : World} {o : Nat} {most : Int} {m f l : Option Nat}
theorem OC.c0 (h : OC w o most m f l) : w.cell? ⟨o, 0, none⟩ = some (.int .i64 most) := by unfold OC at h; simp [World.cell?, h]
theorem OC.c1 (h : OC w o most m f l) : w.cell? ⟨o, 1, none⟩ = some (.map m) := by unfold OC at h; simp [World.cell?, h]
theorem OC.c2 (h : OC w o most m f l) : w.cell? ⟨o, 2, none⟩ = some (PP f) := by unfold OC at h; simp [World.cell?, h]
theorem OC.c3 (h : OC w o most m f l) : w.cell? ⟨o, 3, none⟩ = some (PP l) := by unfold OC at h; simp [World.cell?, h]
theorem OC.fr (h : OC w o most m f l) (i : Nat) : w.frozen? ⟨o, i, none⟩ = false := by unfold OC at h; simp [World.frozen?, h]
theorem OC.lt (h : OC w o most m f l) : o < w.heap.size := block_lt h
theorem OC.set0 (h : OC w o most m f l) (x : Int) : OC (w.setCell ⟨o, 0, none⟩ (.int .i64 x)) o x m f l := bset h _
theorem OC.set1 (h : OC w o most m f l) (x : Option Nat) : OC (w.setCell ⟨o, 1, none⟩ (.map x)) o most x f l := bset h _
theorem OC.set2 (h : OC w o most m f l) (x : Option Nat) : OC (w.setCell ⟨o, 2, none⟩ (PP x)) o most m x l := bset h _
theorem OC.set3 (h : OC w o most m f l) (x : Option Nat) : OC (w.setCell ⟨o, 3, none⟩ (PP x)) o most m f x := bset h _
theorem OC.keep {w' : World} (h : OC w o most m f l) (hk : w'.heap[o]? = w.heap[o]?) : OC w' o most m f l := hk.trans h
theorem OC.ne {p : Nat} {k : K} {a z : Option Nat} (h : OC w o most m f l) (h' : Nd w p k a z) : o ≠ p := fun e => by
  unfold OC at h; unfold Nd at h'
  rw [e, h'] at h
  simp at h
end
/-- The line in order o is L. -/
structure Ln (w : World) (o : Nat) (most : Int) (m : Option Nat) (L : List E) : Prop where
  oc : OC w o most m (hd L none) (lst L none)
  sg : Seg w none L none
  nb : (L.map Prod.snd).Nodup
def fpL (o : Nat) (L : List E) : List Nat := o :: L.map Prod.snd
theorem Ln.keep {G : List Nat} {w w' : World} {o : Nat} {most : Int} {m : Option Nat} {L : List E} (h : Ln w o most m L) (ht : Touch G w w') (hn : ∀ k, k ∈ fpL o L → ¬ k ∈ G) : Ln w' o most m L :=
  ⟨h.oc.keep (ht.block o h.oc.lt (hn o (by simp [fpL]))), h.sg.keep (fun e he => by
    obtain ⟨x, y, hx⟩ := h.sg.mem e he
    exact ht.block _ hx.lt (hn _ (by simp only [fpL, List.mem_cons, List.mem_map]; exact Or.inr ⟨e, he, rfl⟩))), h.nb⟩
theorem Ln.heap {w w' : World} {o : Nat} {most : Int} {m : Option Nat} {L : List E} (h : Ln w o most m L) (he : w'.heap = w.heap) : Ln w' o most m L :=
  ⟨h.oc.keep (by rw [he]), h.sg.keep (fun e _ => by rw [he]), h.nb⟩
theorem nb_ne {A B : List E} {e : E} (h : ((A ++ e :: B).map Prod.snd).Nodup) : (∀ e' ∈ A, e'.2 ≠ e.2) ∧ (∀ e' ∈ B, e'.2 ≠ e.2) ∧ (∀ x ∈ A, ∀ y ∈ B, x.2 ≠ y.2) ∧ (A.map Prod.snd).Nodup ∧ (B.map Prod.snd).Nodup := by
  simp only [List.map_append, List.map_cons, List.nodup_append, List.nodup_cons, List.mem_map, List.mem_cons] at h
  obtain ⟨h1, ⟨h2, h3⟩, h4⟩ := h
  refine ⟨fun e' he => h4 _ ⟨e', he, rfl⟩ _ (Or.inl rfl), fun e' he h => h2 ⟨e', he, h⟩, fun x hx y hy => h4 _ ⟨x, hx, rfl⟩ _ (Or.inr ⟨y, hy, rfl⟩), h1, h3⟩
set_option maxHeartbeats 2000000 in
theorem add35_nil (w : World) (o : Nat) (most : Int) (m : Option Nat) (e : E) (a z : Option Nat) (h : Ln w o most m []) (hn : Nd w e.2 e.1 a z) :
    Calls Try.prog 68 #[LP o, PT e.2] w fun x w' => x = .returned (.tuple #[]) ∧ Ln w' o most m [e] ∧ Touch (e.2 :: fpL o []) w w' := by
  have hoc : OC w o most m none none := h.oc
  have ne := hoc.ne hn
  have ne' := Ne.symm ne
  have c3 := hoc.c3
  have f2 := hoc.fr 2
  have f3 := hoc.fr 3
  have g2 := hn.fr 2
  have g3 := hn.fr 3
  have n2 := hn.c2
  have n3 := hn.c3
  have c2 := hoc.c2
  have H : Hid (Ln ((((w.setCell ⟨e.2, 2, none⟩ (PP none)).setCell ⟨e.2, 3, none⟩ (PP none)).setCell ⟨o, 2, none⟩ (PP (some e.2))).setCell ⟨o, 3, none⟩ (PP (some e.2))) o most m [e] ∧ Touch (e.2 :: fpL o []) w ((((w.setCell ⟨e.2, 2, none⟩ (PP none)).setCell ⟨e.2, 3, none⟩ (PP none)).setCell ⟨o, 2, none⟩ (PP (some e.2))).setCell ⟨o, 3, none⟩ (PP (some e.2)))) := by
    have h1 := (hn.set2 none).set3 none
    have h2 : OC ((w.setCell ⟨e.2, 2, none⟩ (PP none)).setCell ⟨e.2, 3, none⟩ (PP none)) o most m none none := hoc.keep ((Below.heap_setCell _ _ _ _ ne).trans (Below.heap_setCell _ _ _ _ ne))
    refine ⟨⟨(h2.set2 (some e.2)).set3 (some e.2), ⟨(h1.keep (Below.heap_setCell _ _ _ _ ne')).keep (Below.heap_setCell _ _ _ _ ne'), trivial⟩, by simp⟩, ?_⟩
    exact ((((Touch.refl _ _).setCell (by simp) _).setCell (by simp) _).setCell (by simp [fpL]) _).setCell (by simp [fpL]) _
  clear h hoc hn
  unfold LP PT
  unfold PP at c2 c3 n2 n3 H
  simp only [Option.map_none, Option.map_some] at c2 c3 H
  go_enter Try.func68, Try.ntmps68
  go_wp2
  go_end0
  exact ⟨rfl, H.out⟩
set_option maxHeartbeats 2000000 in
theorem add35_more (w : World) (o : Nat) (most : Int) (m : Option Nat) (A : List E) (l e : E) (a z : Option Nat) (h : Ln w o most m (A ++ [l])) (hn : Nd w e.2 e.1 a z) (hf : ∀ e' ∈ A ++ [l], e'.2 ≠ e.2) :
    Calls Try.prog 68 #[LP o, PT e.2] w fun x w' => x = .returned (.tuple #[]) ∧ Ln w' o most m (A ++ [l] ++ [e]) ∧ Touch (e.2 :: fpL o (A ++ [l])) w w' := by
  have hoc := h.oc
  rw [lst_snoc] at hoc
  have ne := hoc.ne hn
  have ne' := Ne.symm ne
  have hl := ((seg_append _ _ _ _).1 h.sg).2.1
  have nl := hoc.ne hl
  have nl' := Ne.symm nl
  have el : l.2 ≠ e.2 := hf l (by simp)
  have el' := Ne.symm el
  have c3 := hoc.c3
  have f3 := hoc.fr 3
  have g2 := hn.fr 2
  have g3 := hn.fr 3
  have n2 := hn.c2
  have n3 := hn.c3
  have l3 := hl.c3
  have lf3 := hl.fr 3
  have H : Hid (Ln ((((w.setCell ⟨e.2, 2, none⟩ (PP (some l.2))).setCell ⟨e.2, 3, none⟩ (PP none)).setCell ⟨l.2, 3, none⟩ (PP (some e.2))).setCell ⟨o, 3, none⟩ (PP (some e.2))) o most m (A ++ [l] ++ [e]) ∧ Touch (e.2 :: fpL o (A ++ [l])) w ((((w.setCell ⟨e.2, 2, none⟩ (PP (some l.2))).setCell ⟨e.2, 3, none⟩ (PP none)).setCell ⟨l.2, 3, none⟩ (PP (some e.2))).setCell ⟨o, 3, none⟩ (PP (some e.2)))) := by
    have h1 := (hn.set2 (some l.2)).set3 none
    have h2 : OC ((w.setCell ⟨e.2, 2, none⟩ (PP (some l.2))).setCell ⟨e.2, 3, none⟩ (PP none)) o most m (hd (A ++ [l]) none) (some l.2) := hoc.keep ((Below.heap_setCell _ _ _ _ ne).trans (Below.heap_setCell _ _ _ _ ne))
    have s1 : Seg ((w.setCell ⟨e.2, 2, none⟩ (PP (some l.2))).setCell ⟨e.2, 3, none⟩ (PP none)) none (A ++ [l]) none := h.sg.keep (fun e' he => (Below.heap_setCell _ _ _ _ (hf e' he)).trans (Below.heap_setCell _ _ _ _ (hf e' he)))
    have s2 := s1.next (nb_ne (B := []) h.nb).1 (some e.2)
    refine ⟨⟨?_, ?_, ?_⟩, ?_⟩
    · have e1 : hd (A ++ [l] ++ [e]) none = hd (A ++ [l]) none := by rw [hd_append]; cases A <;> rfl
      rw [e1, lst_snoc]
      exact (h2.keep (Below.heap_setCell _ _ _ _ nl)).set3 (some e.2)
    · rw [seg_append, lst_snoc]
      have hno : ∀ e' ∈ A ++ [l], e'.2 ≠ o := fun e' he hh => by
        obtain ⟨x, y, hx⟩ := h.sg.mem e' he
        exact hoc.ne hx hh.symm
      exact ⟨s2.keep (fun e' he => Below.heap_setCell _ _ _ _ (hno e' he)), (h1.keep (Below.heap_setCell _ _ _ _ el')).keep (Below.heap_setCell _ _ _ _ ne'), trivial⟩
    · rw [List.map_append, List.nodup_append]
      refine ⟨h.nb, by simp, fun x hx y hy => ?_⟩
      simp only [List.map_cons, List.map_nil, List.mem_singleton] at hy
      subst hy
      obtain ⟨e', he, rfl⟩ := List.mem_map.1 hx
      exact hf e' he
    · exact ((((Touch.refl _ _).setCell (by simp) _).setCell (by simp) _).setCell (by simp [fpL]) _).setCell (by simp [fpL]) _
  clear h hoc hn hl hf
  unfold LP PT
  unfold PP at c3 n2 n3 H l3
  simp only [Option.map_none, Option.map_some] at c3 H l3
  go_enter Try.func68, Try.ntmps68
  go_wp2
  go_end0
  exact ⟨rfl, H.out⟩
theorem snoc_or (L : List E) : L = [] ∨ ∃ A l, L = A ++ [l] := by
  rcases List.eq_nil_or_concat L with h | ⟨A, l, h⟩
  · exact Or.inl h
  · exact Or.inr ⟨A, l, by rw [h, List.concat_eq_append]⟩
theorem add35 (w : World) (o : Nat) (most : Int) (m : Option Nat) (L : List E) (e : E) (a z : Option Nat) (h : Ln w o most m L) (hn : Nd w e.2 e.1 a z) (hf : ∀ e' ∈ L, e'.2 ≠ e.2) :
    Calls Try.prog 68 #[LP o, PT e.2] w fun x w' => x = .returned (.tuple #[]) ∧ Ln w' o most m (L ++ [e]) ∧ Touch (e.2 :: fpL o L) w w' := by
  rcases snoc_or L with rfl | ⟨A, l, rfl⟩
  · exact add35_nil w o most m e a z h hn
  · exact add35_more w o most m A l e a z h hn hf
set_option maxHeartbeats 4000000 in
theorem remove34_nn (w : World) (o : Nat) (most : Int) (m : Option Nat) (A : List E) (p : E) (n : E) (B : List E) (e : E) (h : Ln w o most m ((A ++ [p]) ++ e :: (n :: B))) :
    Calls Try.prog 67 #[LP o, PT e.2] w fun x w' => x = .returned (.tuple #[]) ∧ Ln w' o most m ((A ++ [p]) ++ (n :: B)) ∧ Touch (fpL o ((A ++ [p]) ++ e :: (n :: B))) w w' ∧ w'.heap[e.2]? = w.heap[e.2]? := by
  have hoc := h.oc
  obtain ⟨q1, q2, q3, q4, q5⟩ := nb_ne h.nb
  have sg := (seg_append _ _ _ _).1 h.sg
  have he : Nd w e.2 e.1 (some p.2) (some n.2) := by
    have := sg.2.1
    rw [lst_snoc] at this
    exact this
  have ne := hoc.ne he
  have ne' := Ne.symm ne
  have e2 := he.c2
  have e3 := he.c3
  have hno : ∀ e' ∈ (A ++ [p]) ++ e :: (n :: B), e'.2 ≠ o := fun e' he hh => by
    obtain ⟨x, y, hx⟩ := h.sg.mem e' he
    exact hoc.ne hx hh.symm
  have hp := ((seg_append _ _ _ _).1 sg.1).2.1
  have np := hoc.ne hp
  have np' := Ne.symm np
  have pe : p.2 ≠ e.2 := q1 p (by simp)
  have pe' := Ne.symm pe
  have p3 := hp.c3
  have pf3 := hp.fr 3
  have hn := sg.2.2.1
  have nn := hoc.ne hn
  have nn' := Ne.symm nn
  have en : n.2 ≠ e.2 := q2 n (by simp)
  have en' := Ne.symm en
  have n2 := hn.c2
  have nf2 := hn.fr 2
  have pn : p.2 ≠ n.2 := q3 p (by simp) n (by simp)
  have pn' := Ne.symm pn
  have H : Hid (Ln ((w.setCell ⟨p.2, 3, none⟩ (PP (some n.2))).setCell ⟨n.2, 2, none⟩ (PP (some p.2))) o most m ((A ++ [p]) ++ (n :: B)) ∧ Touch (fpL o ((A ++ [p]) ++ e :: (n :: B))) w ((w.setCell ⟨p.2, 3, none⟩ (PP (some n.2))).setCell ⟨n.2, 2, none⟩ (PP (some p.2))) ∧ ((w.setCell ⟨p.2, 3, none⟩ (PP (some n.2))).setCell ⟨n.2, 2, none⟩ (PP (some p.2))).heap[e.2]? = w.heap[e.2]?) := by
    have a1 := Seg.next (x := (some n.2)) sg.1 (nb_ne (B := []) (by simpa using q4)).1
    have a2 : Seg ((w.setCell ⟨p.2, 3, none⟩ (PP (some n.2))).setCell ⟨n.2, 2, none⟩ (PP (some p.2))) none (A ++ [p]) (some n.2) := a1.keep (fun e' he => Below.heap_setCell _ _ _ _ (q3 e' he n (by simp)))
    have b1 : Seg (w.setCell ⟨p.2, 3, none⟩ (PP (some n.2))) (some e.2) (n :: B) none := sg.2.2.keep (fun e' he => Below.heap_setCell _ _ _ _ (Ne.symm (q3 p (by simp) e' he)))
    have b2 := Seg.prev (x := (some p.2)) b1 (nb_ne (A := []) q5).2.1
    have o2 : OC ((w.setCell ⟨p.2, 3, none⟩ (PP (some n.2))).setCell ⟨n.2, 2, none⟩ (PP (some p.2))) o most m (hd ((A ++ [p]) ++ e :: (n :: B)) none) (lst ((A ++ [p]) ++ e :: (n :: B)) none) := hoc.keep ((Below.heap_setCell _ _ _ _ nn).trans (Below.heap_setCell _ _ _ _ np))
    refine ⟨⟨?_, ?_, ?_⟩, ?_, ?_⟩
    · have x1 : hd ((A ++ [p]) ++ e :: (n :: B)) none = hd ((A ++ [p]) ++ (n :: B)) none := by simp only [hd_append]; cases A <;> rfl
      have x2 : lst ((A ++ [p]) ++ e :: (n :: B)) none = lst ((A ++ [p]) ++ (n :: B)) none := by simp only [lst_append]; rfl
      rw [x1, x2] at o2
      exact o2
    · rw [seg_append, lst_snoc]
      exact ⟨a2, b2⟩
    · rw [List.map_append, List.nodup_append]
      refine ⟨q4, q5, fun x hx y hy => ?_⟩
      obtain ⟨e', he, rfl⟩ := List.mem_map.1 hx
      obtain ⟨e'', he', rfl⟩ := List.mem_map.1 hy
      exact q3 e' he e'' he'
    · exact (((Touch.refl _ _).setCell (by simp [fpL]) _).setCell (by simp [fpL]) _)
    · exact (Below.heap_setCell _ _ _ _ en').trans (Below.heap_setCell _ _ _ _ pe')
  clear h hoc he q1 q2 q3 q4 q5 sg hno hp hn
  unfold LP PT
  unfold PP at *
  simp only [Option.map_none, Option.map_some] at *
  go_enter Try.func67, Try.ntmps67
  go_wp2
  go_region
  go_wp2
  go_region
  go_wp2
  go_end0
  exact ⟨rfl, H.out.1.heap rfl, ⟨H.out.2.1.os, H.out.2.1.tape, H.out.2.1.output, H.out.2.1.size, H.out.2.1.block⟩, H.out.2.2⟩
set_option maxHeartbeats 4000000 in
theorem remove34_nb (w : World) (o : Nat) (most : Int) (m : Option Nat) (n : E) (B : List E) (e : E) (h : Ln w o most m (([]) ++ e :: (n :: B))) :
    Calls Try.prog 67 #[LP o, PT e.2] w fun x w' => x = .returned (.tuple #[]) ∧ Ln w' o most m (([]) ++ (n :: B)) ∧ Touch (fpL o (([]) ++ e :: (n :: B))) w w' ∧ w'.heap[e.2]? = w.heap[e.2]? := by
  have hoc := h.oc
  obtain ⟨q1, q2, q3, q4, q5⟩ := nb_ne h.nb
  have sg := (seg_append _ _ _ _).1 h.sg
  have he : Nd w e.2 e.1 none (some n.2) := by
    have := sg.2.1
    skip
    exact this
  have ne := hoc.ne he
  have ne' := Ne.symm ne
  have e2 := he.c2
  have e3 := he.c3
  have hno : ∀ e' ∈ ([]) ++ e :: (n :: B), e'.2 ≠ o := fun e' he hh => by
    obtain ⟨x, y, hx⟩ := h.sg.mem e' he
    exact hoc.ne hx hh.symm
  have c2 := hoc.c2
  have f2 := hoc.fr 2
  have hn := sg.2.2.1
  have nn := hoc.ne hn
  have nn' := Ne.symm nn
  have en : n.2 ≠ e.2 := q2 n (by simp)
  have en' := Ne.symm en
  have n2 := hn.c2
  have nf2 := hn.fr 2
  have H : Hid (Ln ((w.setCell ⟨o, 2, none⟩ (PP (some n.2))).setCell ⟨n.2, 2, none⟩ (PP none)) o most m (([]) ++ (n :: B)) ∧ Touch (fpL o (([]) ++ e :: (n :: B))) w ((w.setCell ⟨o, 2, none⟩ (PP (some n.2))).setCell ⟨n.2, 2, none⟩ (PP none)) ∧ ((w.setCell ⟨o, 2, none⟩ (PP (some n.2))).setCell ⟨n.2, 2, none⟩ (PP none)).heap[e.2]? = w.heap[e.2]?) := by
    have b1 : Seg (w.setCell ⟨o, 2, none⟩ (PP (some n.2))) (some e.2) (n :: B) none := sg.2.2.keep (fun e' he => Below.heap_setCell _ _ _ _ (hno e' (by simp only [List.mem_append, List.mem_cons] at he ⊢; exact Or.inr (Or.inr he))))
    have b2 := Seg.prev (x := none) b1 (nb_ne (A := []) q5).2.1
    have o2 : OC ((w.setCell ⟨o, 2, none⟩ (PP (some n.2))).setCell ⟨n.2, 2, none⟩ (PP none)) o most m (some n.2) (lst (([]) ++ e :: (n :: B)) none) := (hoc.set2 _).keep (Below.heap_setCell _ _ _ _ nn)
    refine ⟨⟨?_, ?_, ?_⟩, ?_, ?_⟩
    · exact o2
    · exact b2
    · rw [List.map_append, List.nodup_append]
      refine ⟨q4, q5, fun x hx y hy => ?_⟩
      obtain ⟨e', he, rfl⟩ := List.mem_map.1 hx
      obtain ⟨e'', he', rfl⟩ := List.mem_map.1 hy
      exact q3 e' he e'' he'
    · exact (((Touch.refl _ _).setCell (by simp [fpL]) _).setCell (by simp [fpL]) _)
    · exact (Below.heap_setCell _ _ _ _ en').trans (Below.heap_setCell _ _ _ _ ne')
  clear h hoc he q1 q2 q3 q4 q5 sg hno hn
  unfold LP PT
  unfold PP at *
  simp only [Option.map_none, Option.map_some] at *
  go_enter Try.func67, Try.ntmps67
  go_wp2
  go_region
  go_wp2
  go_end0
  exact ⟨rfl, H.out.1.heap rfl, ⟨H.out.2.1.os, H.out.2.1.tape, H.out.2.1.output, H.out.2.1.size, H.out.2.1.block⟩, H.out.2.2⟩
set_option maxHeartbeats 4000000 in
theorem remove34_an (w : World) (o : Nat) (most : Int) (m : Option Nat) (A : List E) (p : E) (e : E) (h : Ln w o most m ((A ++ [p]) ++ e :: ([]))) :
    Calls Try.prog 67 #[LP o, PT e.2] w fun x w' => x = .returned (.tuple #[]) ∧ Ln w' o most m ((A ++ [p]) ++ ([])) ∧ Touch (fpL o ((A ++ [p]) ++ e :: ([]))) w w' ∧ w'.heap[e.2]? = w.heap[e.2]? := by
  have hoc := h.oc
  obtain ⟨q1, q2, q3, q4, q5⟩ := nb_ne h.nb
  have sg := (seg_append _ _ _ _).1 h.sg
  have he : Nd w e.2 e.1 (some p.2) none := by
    have := sg.2.1
    rw [lst_snoc] at this
    exact this
  have ne := hoc.ne he
  have ne' := Ne.symm ne
  have e2 := he.c2
  have e3 := he.c3
  have hno : ∀ e' ∈ (A ++ [p]) ++ e :: ([]), e'.2 ≠ o := fun e' he hh => by
    obtain ⟨x, y, hx⟩ := h.sg.mem e' he
    exact hoc.ne hx hh.symm
  have hp := ((seg_append _ _ _ _).1 sg.1).2.1
  have np := hoc.ne hp
  have np' := Ne.symm np
  have pe : p.2 ≠ e.2 := q1 p (by simp)
  have pe' := Ne.symm pe
  have p3 := hp.c3
  have pf3 := hp.fr 3
  have c3 := hoc.c3
  have f3 := hoc.fr 3
  have H : Hid (Ln ((w.setCell ⟨p.2, 3, none⟩ (PP none)).setCell ⟨o, 3, none⟩ (PP (some p.2))) o most m ((A ++ [p]) ++ ([])) ∧ Touch (fpL o ((A ++ [p]) ++ e :: ([]))) w ((w.setCell ⟨p.2, 3, none⟩ (PP none)).setCell ⟨o, 3, none⟩ (PP (some p.2))) ∧ ((w.setCell ⟨p.2, 3, none⟩ (PP none)).setCell ⟨o, 3, none⟩ (PP (some p.2))).heap[e.2]? = w.heap[e.2]?) := by
    have a1 := Seg.next (x := none) sg.1 (nb_ne (B := []) (by simpa using q4)).1
    have a2 : Seg ((w.setCell ⟨p.2, 3, none⟩ (PP none)).setCell ⟨o, 3, none⟩ (PP (some p.2))) none (A ++ [p]) none := a1.keep (fun e' he => Below.heap_setCell _ _ _ _ (hno e' (by simp only [List.mem_append] at he ⊢; exact Or.inl he)))
    have o2 : OC ((w.setCell ⟨p.2, 3, none⟩ (PP none)).setCell ⟨o, 3, none⟩ (PP (some p.2))) o most m (hd ((A ++ [p]) ++ e :: ([])) none) (some p.2) := (hoc.keep (Below.heap_setCell _ _ _ _ np)).set3 _
    refine ⟨⟨?_, ?_, ?_⟩, ?_, ?_⟩
    · have x1 : hd ((A ++ [p]) ++ e :: ([])) none = hd ((A ++ [p]) ++ ([])) none := by simp only [hd_append]; cases A <;> rfl
      have x2 : lst ((A ++ [p]) ++ ([])) none = some p.2 := by rw [List.append_nil]; exact lst_snoc _ _ _
      rw [x2, ← x1]
      exact o2
    · rw [List.append_nil]
      exact a2
    · rw [List.map_append, List.nodup_append]
      refine ⟨q4, q5, fun x hx y hy => ?_⟩
      obtain ⟨e', he, rfl⟩ := List.mem_map.1 hx
      obtain ⟨e'', he', rfl⟩ := List.mem_map.1 hy
      exact q3 e' he e'' he'
    · exact (((Touch.refl _ _).setCell (by simp [fpL]) _).setCell (by simp [fpL]) _)
    · exact (Below.heap_setCell _ _ _ _ ne').trans (Below.heap_setCell _ _ _ _ pe')
  clear h hoc he q1 q2 q3 q4 q5 sg hno hp
  unfold LP PT
  unfold PP at *
  simp only [Option.map_none, Option.map_some] at *
  go_enter Try.func67, Try.ntmps67
  go_wp2
  go_region
  go_wp2
  go_end0
  exact ⟨rfl, H.out.1.heap rfl, ⟨H.out.2.1.os, H.out.2.1.tape, H.out.2.1.output, H.out.2.1.size, H.out.2.1.block⟩, H.out.2.2⟩
set_option maxHeartbeats 4000000 in
theorem remove34_oo (w : World) (o : Nat) (most : Int) (m : Option Nat)  (e : E) (h : Ln w o most m (([]) ++ e :: ([]))) :
    Calls Try.prog 67 #[LP o, PT e.2] w fun x w' => x = .returned (.tuple #[]) ∧ Ln w' o most m (([]) ++ ([])) ∧ Touch (fpL o (([]) ++ e :: ([]))) w w' ∧ w'.heap[e.2]? = w.heap[e.2]? := by
  have hoc := h.oc
  obtain ⟨q1, q2, q3, q4, q5⟩ := nb_ne h.nb
  have sg := (seg_append _ _ _ _).1 h.sg
  have he : Nd w e.2 e.1 none none := by
    have := sg.2.1
    skip
    exact this
  have ne := hoc.ne he
  have ne' := Ne.symm ne
  have e2 := he.c2
  have e3 := he.c3
  have hno : ∀ e' ∈ ([]) ++ e :: ([]), e'.2 ≠ o := fun e' he hh => by
    obtain ⟨x, y, hx⟩ := h.sg.mem e' he
    exact hoc.ne hx hh.symm
  have c2 := hoc.c2
  have f2 := hoc.fr 2
  have c3 := hoc.c3
  have f3 := hoc.fr 3
  have H : Hid (Ln ((w.setCell ⟨o, 2, none⟩ (PP none)).setCell ⟨o, 3, none⟩ (PP none)) o most m (([]) ++ ([])) ∧ Touch (fpL o (([]) ++ e :: ([]))) w ((w.setCell ⟨o, 2, none⟩ (PP none)).setCell ⟨o, 3, none⟩ (PP none)) ∧ ((w.setCell ⟨o, 2, none⟩ (PP none)).setCell ⟨o, 3, none⟩ (PP none)).heap[e.2]? = w.heap[e.2]?) := by
    have o2 : OC ((w.setCell ⟨o, 2, none⟩ (PP none)).setCell ⟨o, 3, none⟩ (PP none)) o most m none none := (hoc.set2 _).set3 _
    refine ⟨⟨?_, ?_, ?_⟩, ?_, ?_⟩
    · exact o2
    · trivial
    · rw [List.map_append, List.nodup_append]
      refine ⟨q4, q5, fun x hx y hy => ?_⟩
      obtain ⟨e', he, rfl⟩ := List.mem_map.1 hx
      obtain ⟨e'', he', rfl⟩ := List.mem_map.1 hy
      exact q3 e' he e'' he'
    · exact (((Touch.refl _ _).setCell (by simp [fpL]) _).setCell (by simp [fpL]) _)
    · exact (Below.heap_setCell _ _ _ _ ne').trans (Below.heap_setCell _ _ _ _ ne')
  clear h hoc he q1 q2 q3 q4 q5 sg hno
  unfold LP PT
  unfold PP at *
  simp only [Option.map_none, Option.map_some] at *
  go_enter Try.func67, Try.ntmps67
  go_wp2
  go_end0
  exact ⟨rfl, H.out⟩
theorem remove34 (w : World) (o : Nat) (most : Int) (m : Option Nat) (A B : List E) (e : E) (h : Ln w o most m (A ++ e :: B)) :
    Calls Try.prog 67 #[LP o, PT e.2] w fun x w' => x = .returned (.tuple #[]) ∧ Ln w' o most m (A ++ B) ∧ Touch (fpL o (A ++ e :: B)) w w' ∧ w'.heap[e.2]? = w.heap[e.2]? := by
  rcases snoc_or A with rfl | ⟨A, p, rfl⟩
  · cases B with
    | nil => exact remove34_oo w o most m e h
    | cons n B => exact remove34_nb w o most m n B e h
  · cases B with
    | nil => exact remove34_an w o most m A p e h
    | cons n B => exact remove34_nn w o most m A p n B e h
end Go.Proofs.Ytopepalpmkeffaa
