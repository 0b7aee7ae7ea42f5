/- The contract of putLast: an item that is not there is the last one behind it. -/
import Derived.Test.YtmbjjkdocmcpdaaTrn
namespace Go.Proofs.Ytmbjjkdocmcpdaa
open Go.RowKit Go.Maps Go.ChangeMaps
set_option linter.unusedVariables false

theorem maxLen_big {n : Nat} (h : n ≤ 65536) : n < maxLen := by unfold maxLen; omega
theorem bset {w : World} {g i : Nat} {cs : Array Value} {t : TypeId} {fr : Nat × Nat} (h : w.heap[g]? = some (.cells cs t fr)) (v : Value) : (w.setCell ⟨g, i, none⟩ v).heap[g]? = some (.cells (cs.setIfInBounds i v) t fr) := by
  simp [World.setCell, Array.getElem?_modify, h]
theorem TC.set0 {w : World} {q : Nat} {f l : Int} {m : Option Nat} (h : TC w q f l m) (x : Int) : TC (w.setCell ⟨q, 0, none⟩ (.int .i64 x)) q x l m := bset h _
theorem TC.set1 {w : World} {q : Nat} {f l : Int} {m : Option Nat} (h : TC w q f l m) (x : Int) : TC (w.setCell ⟨q, 1, none⟩ (.int .i64 x)) q f x m := bset h _
theorem TC.set2 {w : World} {q : Nat} {f l : Int} {m : Option Nat} (h : TC w q f l m) (x : Option Nat) : TC (w.setCell ⟨q, 2, none⟩ (.map x)) q f l x := bset h _
theorem MapAt.setCell {w : World} {b n : Nat} {g : Int → Option Value} (h : MapAt w b n g) {a : Addr} (hn : b ≠ a.block) (v : Value) : MapAt (w.setCell a v) b n g := h.kept (Below.heap_setCell _ _ _ _ hn)
theorem wf_snoc {xs : List Int} {x : Int} (h : ∀ y ∈ xs, W64 y) (hx : W64 x) : ∀ y ∈ xs ++ [x], W64 y := fun y hy => by
  simp only [List.mem_append, List.mem_singleton] at hy
  rcases hy with e | rfl
  · exact h y e
  · exact hx
theorem nd_snoc {xs : List Int} {x : Int} (h : xs.Nodup) (hx : ¬ x ∈ xs) : (xs ++ [x]).Nodup := by
  rw [List.nodup_append]
  exact ⟨h, by simp, fun a ha b hb => by simp only [List.mem_singleton] at hb; subst hb; exact fun e => hx (e ▸ ha)⟩

theorem MapAt.ne_block {w : World} {b n : Nat} {g : Int → Option Value} (hm : MapAt w b n g) {q : Nat} {cs : Array Value} {t : TypeId} {fr : Nat × Nat} (h : w.heap[q]? = some (.cells cs t fr)) : b ≠ q := fun e => by
  obtain ⟨D, ⟨es, cl, hb, _⟩, _⟩ := hm
  rw [← e, hb] at h
  simp at h

set_option maxHeartbeats 4000000 in
set_option maxRecDepth 100000 in
theorem putLast35_new (w : World) (q : Nat) (x : Int) (hx : W64 x) (h : TQ w q none []) :
    Calls Try.prog 44 #[P q, .int .i64 x] w fun e w' => e = .returned (.tuple #[]) ∧ ∃ m', Nx w none m' ∧ Touch (fp q none) w w' ∧ TQ w' q m' [x] := by
  obtain ⟨h1, h2, h3, f, l, hc, hs⟩ := h
  have c2 := hc.c2
  have hq := block_lt hc
  have f2 := hc.fr 2
  have f1 := hc.fr 1
  have f0 := hc.fr 0
  have c0 := hc.c0
  have c1 := hc.c1
  have hmm := @run_makeMap Try.prog
  have hne : w.heap.size ≠ q := by omega
  have HMade : ∀ V : World, V.heap.size = w.heap.size → MapAt (V.alloc (.map #[] 0)) w.heap.size 0 (fun _ => none) := fun V hV => by have := mapAt_made V; rw [hV] at this; exact this
  have HMd := hid (HMade)
  clear HMade
  have q63 := eq63
  clear hs h1 h2 h3
  unfold P
  go_enter Try.func44, Try.ntmps44
  go_wp2_with (at_len; refine wpList_mlen _ rfl _ 77 rfl 76 Try.underlying77 w.heap.size 0 _ rfl (HMd.out _ (by simp [World.setCell])) ?_)
  obtain ⟨V, hV⟩ : ∃ V, V = (((w.setCell ⟨q, 2, none⟩ (.map (some w.heap.size))).setCell ⟨q, 0, none⟩ (.int .i64 x)).alloc (Obj.map #[] 0)) := ⟨_, rfl⟩
  have hTV : TC V q x l (some w.heap.size) := by
    rw [hV]
    exact (Below.heap_alloc _ _ _ (by simp [World.setCell]; exact hq)).trans ((hc.set2 _).set0 x)
  have hMV : MapAt V w.heap.size 0 (lmap (fun _ => 0) (fun _ => 0) []) := by
    rw [hV]
    exact (HMd.out _ (by simp [World.setCell])).congr (fun k _ => by simp [lmap])
  have HT1 : Hid (Touch [q] w V) := by
    rw [hV]
    exact (((Touch.refl _ _).setCell (p := ⟨q, 2, none⟩) (by simp) _).setCell (p := ⟨q, 0, none⟩) (by simp) _).alloc _
  rw [← hV]
  clear hV HMd hc c2 f2 f1 f0 c0 c1 q63
  have hbq : w.heap.size ≠ q := hTV.map_ne hMV
  obtain ⟨o, hu, hm2⟩ := (show MapAt (V).drew w.heap.size 0 (lmap (fun _ => 0) (fun _ => 0) []) from hMV.kept rfl).set (t := 77) Try.underlying77 (maxLen_big (by omega)) hx (lnk l 0)
  have hT2 : TC (setBlock (V).drew w.heap.size o) q x l (some w.heap.size) := (setBlock_other _ _ _ (Ne.symm hbq)).trans hTV
  have HE : Hid (TC ((setBlock (V).drew w.heap.size o).setCell ⟨q, 1, none⟩ (.int .i64 x)) q x x (some w.heap.size)) := hT2.set1 x
  have HM2 := hid (hm2.setCell (a := ⟨q, 1, none⟩) hbq (.int .i64 x))
  have HTo : Hid (Touch [w.heap.size] (V) (setBlock (V).drew w.heap.size o)) := touch_setBlock (Touch.refl _ _).drew (by simp) o
  have v1 := hTV.c1
  have v2 := hTV.c2
  have z1 := hT2.c1
  have z1f := hT2.fr 1
  clear hm2 hT2 hTV hMV
  simp only [lnk] at hu
  generalize setBlock (V).drew w.heap.size o = W2 at *
  go_region
  go_wp2
  go_end0
  refine ⟨rfl, some w.heap.size, fun b hb => by cases hb; exact Or.inr (Nat.le_refl _), ?_, ?_⟩
  · exact (HT1.out.trans HTo.out (fun i hi => by simp only [List.mem_singleton] at hi; subst hi; exact Or.inr (Nat.le_refl _))).setCell (by simp) _
  · refine ⟨by simp, fun y hy => by simp only [List.mem_singleton] at hy; subst hy; exact hx, by simp, x, x, HE.out, Or.inr ⟨_, fun _ => l, fun _ => 0, rfl, ?_, chn_one _ _ _⟩⟩
    exact HM2.out.congr (fun k _ => lmap_one _ _ _ _ _)

set_option maxHeartbeats 4000000 in
set_option maxRecDepth 100000 in
theorem putLast35_empty (w : World) (q b : Nat) (x : Int) (hx : W64 x) (h : TQ w q (some b) []) :
    Calls Try.prog 44 #[P q, .int .i64 x] w fun e w' => e = .returned (.tuple #[]) ∧ ∃ m', Nx w (some b) m' ∧ Touch (fp q (some b)) w w' ∧ TQ w' q m' [x] := by
  obtain ⟨h1, h2, h3, f, l, hc, hs⟩ := h
  obtain ⟨b', be, af, hbb, hm, hch⟩ : ∃ b' be af, some b = some b' ∧ MapAt w b' ([] : List Int).length (lmap be af []) ∧ Chn f l be af [] := by
    rcases hs with ⟨h, _⟩ | h
    · cases h
    · exact h
  cases hbb
  have hbq := hc.map_ne hm
  have c2 := hc.c2
  have hq := block_lt hc
  have f0 := hc.fr 0
  have c0 := hc.c0
  have c1 := hc.c1
  have HM := hid (hm)
  have q63 := eq63
  clear hs h1 h2 h3 hm hch
  unfold P
  go_enter Try.func44, Try.ntmps44
  go_wp2_with (at_len; refine wpList_mlen _ rfl _ 77 rfl 76 Try.underlying77 b 0 _ rfl HM.out ?_)
  obtain ⟨V, hV⟩ : ∃ V, V = w.setCell ⟨q, 0, none⟩ (.int .i64 x) := ⟨_, rfl⟩
  have hTV : TC V q x l (some b) := by
    rw [hV]
    exact hc.set0 x
  have hMV : MapAt V b 0 (lmap be af []) := by
    rw [hV]
    exact HM.out.setCell (a := ⟨q, 0, none⟩) hbq _
  have HT1 : Hid (Touch [q, b] w V) := by
    rw [hV]
    exact ((Touch.refl _ _).setCell (p := ⟨q, 0, none⟩) (by simp) _)
  rw [← hV]
  clear hV hc c2 f0 c0 c1 q63 hbq
  have hbq : b ≠ q := hTV.map_ne hMV
  obtain ⟨o, hu, hm2⟩ := (show MapAt (V).drew b 0 (lmap be af []) from hMV.kept rfl).set (t := 77) Try.underlying77 (maxLen_big (by omega)) hx (lnk l 0)
  have hT2 : TC (setBlock (V).drew b o) q x l (some b) := (setBlock_other _ _ _ (Ne.symm hbq)).trans hTV
  have HE : Hid (TC ((setBlock (V).drew b o).setCell ⟨q, 1, none⟩ (.int .i64 x)) q x x (some b)) := hT2.set1 x
  have HM2 := hid (hm2.setCell (a := ⟨q, 1, none⟩) hbq (.int .i64 x))
  have HTo : Hid (Touch [b] (V) (setBlock (V).drew b o)) := touch_setBlock (Touch.refl _ _).drew (by simp) o
  have v1 := hTV.c1
  have v2 := hTV.c2
  have z1 := hT2.c1
  have z1f := hT2.fr 1
  clear hm2 hT2 hTV hMV
  simp only [lnk] at hu
  generalize setBlock (V).drew b o = W2 at *
  go_region
  go_wp2
  go_end0
  refine ⟨rfl, some b, fun b hb => Or.inl hb, ?_, ?_⟩
  · exact (HT1.out.trans HTo.out (fun i hi => by simp only [List.mem_singleton] at hi; subst hi; simp)).setCell (by simp) _
  · refine ⟨by simp, fun y hy => by simp only [List.mem_singleton] at hy; subst hy; exact hx, by simp, x, x, HE.out, Or.inr ⟨_, fun _ => l, fun _ => 0, rfl, ?_, chn_one _ _ _⟩⟩
    exact HM2.out.congr (fun k _ => lmap_one _ _ _ _ _)

set_option maxHeartbeats 4000000 in
set_option maxRecDepth 100000 in
theorem putLast35_more (w : World) (q : Nat) (m : Option Nat) (x : Int) (xs : List Int) (hx : W64 x) (hnx : ¬ x ∈ xs) (h0 : 0 < xs.length) (hlt : xs.length < 65536) (h : TQ w q m xs) :
    Calls Try.prog 44 #[P q, .int .i64 x] w fun e w' => e = .returned (.tuple #[]) ∧ ∃ m', Nx w m m' ∧ Touch (fp q m) w w' ∧ TQ w' q m' (xs ++ [x]) := by
  obtain ⟨h1, h2, h3, f, l, hc, hs⟩ := h
  obtain ⟨b, be, af, rfl, hm, hch⟩ : ∃ b be af, m = some b ∧ MapAt w b xs.length (lmap be af xs) ∧ Chn f l be af xs := by
    rcases hs with ⟨_, rfl⟩ | h
    · simp at h0
    · exact h
  have hbq := hc.map_ne hm
  have c2 := hc.c2
  have hq := block_lt hc
  have c1 := hc.c1
  have hl : l ∈ xs := by rw [hch.last h0]; exact List.getElem_mem _
  have HS := setAfter42 w q b xs.length f l _ l (be l) (af l) x hc hm (h2 l hl) (lmap_at hl) (maxLen_big (by omega))
  have HM := hid (hm)
  have q63 := eq63
  have HC := hid (hc)
  have HH := hid (And.intro h1 (And.intro h2 (And.intro hch hnx)))
  have hne : ((xs.length : Int) == 0) = false := by simp; intro e; rw [e] at h0; simp at h0
  have hlx : (xs.length : Int) < 65536 := by omega
  clear hs h1 h2 h3 hm hch hl hnx hc
  unfold P
  go_enter Try.func44, Try.ntmps44
  go_wp2_with (first | (at_len; refine wpList_mlen _ rfl _ 77 rfl 76 Try.underlying77 b _ _ rfl HM.out ?_) | (go_at_call 45; refine HS.mono ?_; rintro e V ⟨rfl, hTo1, hMV⟩))
  have hTV : TC V q f l (some b) := HC.out.keep hTo1 (by simpa using Ne.symm hbq)
  have HT1 : Hid (Touch [q, b] w V) := hTo1.mono (fun k hk => by simp at hk; simp [hk])
  clear c2 c1 q63 hbq HS hTo1
  have hbq : b ≠ q := hTV.map_ne hMV
  obtain ⟨o, hu, hm2⟩ := (show MapAt (V).drew b xs.length (upd (lmap be af xs) l (lnk (be l) x)) from hMV.kept rfl).set (t := 77) Try.underlying77 (maxLen_big (by omega)) hx (lnk l 0)
  have hT2 : TC (setBlock (V).drew b o) q f l (some b) := (setBlock_other _ _ _ (Ne.symm hbq)).trans hTV
  have HE : Hid (TC ((setBlock (V).drew b o).setCell ⟨q, 1, none⟩ (.int .i64 x)) q f x (some b)) := hT2.set1 x
  have HM2 := hid (hm2.setCell (a := ⟨q, 1, none⟩) hbq (.int .i64 x))
  have HTo : Hid (Touch [b] (V) (setBlock (V).drew b o)) := touch_setBlock (Touch.refl _ _).drew (by simp) o
  have v1 := hTV.c1
  have v2 := hTV.c2
  have z1 := hT2.c1
  have z1f := hT2.fr 1
  clear hm2 hT2 hTV hMV
  simp only [lnk] at hu
  generalize setBlock (V).drew b o = W2 at *
  go_region
  go_wp2
  go_end0
  obtain ⟨h1, h2, hch, hnx⟩ := HH.out
  refine ⟨rfl, some b, fun b hb => Or.inl hb, ?_, ?_⟩
  · exact (HT1.out.trans HTo.out (fun i hi => by simp only [List.mem_singleton] at hi; subst hi; simp)).setCell (by simp) _
  · refine ⟨nd_snoc h1 hnx, wf_snoc h2 hx, by simp; omega, f, x, HE.out, Or.inr ⟨_, _, _, rfl, ?_, chn_push hch h0 h1 hnx⟩⟩
    have hl : l ∈ xs := by rw [hch.last h0]; exact List.getElem_mem _
    have e : ((upd (lmap be af xs) l (lnk (be l) x)) x).isSome = false := by
      simp only [upd]
      rw [if_neg (fun e : x = l => hnx (by rw [e]; exact hl)), lmap_no hnx]
      rfl
    have := HM2.out
    rw [e] at this
    simp only [List.length_append, List.length_singleton]
    exact this.congr (fun k _ => lmap_push hch h0 hnx k)

theorem putLast35 (w : World) (q : Nat) (m : Option Nat) (x : Int) (xs : List Int) (hx : W64 x) (hnx : ¬ x ∈ xs) (hlt : xs.length < 65536) (h : TQ w q m xs) :
    Calls Try.prog 44 #[P q, .int .i64 x] w fun e w' => e = .returned (.tuple #[]) ∧ ∃ m', Nx w m m' ∧ Touch (fp q m) w w' ∧ TQ w' q m' (xs ++ [x]) := by
  cases xs with
  | nil =>
    cases m with
    | none => exact putLast35_new w q x hx h
    | some b => exact putLast35_empty w q b x hx h
  | cons y r => exact putLast35_more w q m x (y :: r) hx hnx (by simp) hlt h
end Go.Proofs.Ytmbjjkdocmcpdaa
