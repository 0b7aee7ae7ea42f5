/- The contracts of the heap's Push and Pop. -/
import Derived.Test.YtaioegefoiabhaaDwn
import Derived.OwnWalk
namespace Go.Proofs.Ytaioegefoiabhaa
open Go.RowKit Go.Maps Go.ChangeMaps
set_option linter.unusedVariables false
theorem info77 : (Try.prog.info? 86).map (fun i => (i.zero, i.size, i.bytes)) = some (some (.agg #[.int .i64 0, .int .i64 0, .int .i64 0]), 3, 24) := by kernel_rfl
theorem cell_three_new (w : World) (x y z : Value) (t : TypeId) : ∀ j u, [x, y, z][j]? = some u → (w.alloc (.cells #[x, y, z] t)).cell? ((⟨w.heap.size, 0, none⟩ : Addr).add j) = some u := by
  intro j u hj
  match j, hj with
  | 0, hj => simp at hj; subst hj; simp [Addr.add]
  | 1, hj => simp at hj; subst hj; simp [Addr.add]
  | 2, hj => simp at hj; subst hj; simp [Addr.add]
/-- The places of a queue lie where they lay, or in new blocks. -/
def Nq (w : World) (q : Nat) (sl : Value) (m : Option Nat) (sl' : Value) (m' : Option Nat) : Prop := ∀ k, k ∈ fq q sl' m' → k ∈ fq q sl m ∨ w.heap.size ≤ k
theorem pmap_snoc {s : List Slot} {x : Slot} (hx : ∀ y ∈ s, y.item ≠ x.item) (k : Int) : upd (pmap s) x.item (.int .i64 s.length) k = pmap (s ++ [x]) k := by
  unfold upd pmap idx
  rw [List.findIdx?_append]
  by_cases e : k = x.item
  · rw [if_pos e, e]
    have : idx s x.item = none := idx_none.2 hx
    unfold idx at this
    rw [this]
    simp
  · rw [if_neg e]
    have : ¬ x.item = k := fun h => e h.symm
    cases h : List.findIdx? (fun x => x.item == k) s <;> simp [this]
theorem flat_one (x : Slot) : flat [x] = [.int .i64 x.at_, .int .i64 x.put, .int .i64 x.item] := rfl
theorem nd_snocS {s : List Slot} {x : Slot} (h : Nd s) (hx : ∀ y ∈ s, y.item ≠ x.item) : Nd (s ++ [x]) := by
  unfold Nd
  rw [List.map_append, List.nodup_append]
  refine ⟨h, by simp, fun a ha b hb => ?_⟩
  simp at hb ha
  obtain ⟨y, hy, rfl⟩ := ha
  subst hb
  exact hx y hy
theorem wf_snocS {s : List Slot} {x : Slot} (h : WfS s) (hx : W64 x.at_ ∧ W64 x.put ∧ W64 x.item) : WfS (s ++ [x]) := fun y hy => by
  simp at hy
  rcases hy with hy | rfl
  · exact h y hy
  · exact hx
theorem HC.set0 {w : World} {q : Nat} {sl : Value} {m : Option Nat} {p : Int} (h : HC w q sl m p) (v : Value) : HC (w.setCell ⟨q, 0, none⟩ v) q v m p := Joins.block_setCell h _
theorem HC.set1 {w : World} {q : Nat} {sl : Value} {m : Option Nat} {p : Int} (h : HC w q sl m p) (v : Option Nat) : HC (w.setCell ⟨q, 1, none⟩ (.map v)) q sl v p := Joins.block_setCell h _
theorem HC.set2 {w : World} {q : Nat} {sl : Value} {m : Option Nat} {p : Int} (h : HC w q sl m p) (v : Int) : HC (w.setCell ⟨q, 2, none⟩ (.int .i64 v)) q sl m v := Joins.block_setCell h _
/-- How the heap stands ahead of the append: the map has the item already. -/
structure Mid (w : World) (q : Nat) (sl : Value) (b : Nat) (p : Int) (s : List Slot) (x : Slot) : Prop where
  hc : HC w q sl (some b) p
  row : w.ownsRow 0 86 3 sl s.length (flat s)
  mp : MapAt w b (s.length + 1) (pmap (s ++ [x]))
theorem Mid.after {w w2 : World} {q b : Nat} {sl : Value} {p : Int} {s : List Slot} {x : Slot} (h : Mid w q sl b p s x) (hn : Nd s) (hw : WfS s) (hx : ∀ y ∈ s, y.item ≠ x.item) (hxw : W64 x.at_ ∧ W64 x.put ∧ W64 x.item) (hl : s.length < 65536)
    {g c : Nat} (hr : w2.ownsRow 0 86 3 (.slice (some ⟨g, 0, none⟩) (s.length + 1) c) (s.length + 1) (flat s ++ [.int .i64 x.at_, .int .i64 x.put, .int .i64 x.item])) (ht : Touch sl.ownBlock.toList w w2) (hg : sl.ownBlock = some g ∨ w.heap.size ≤ g) :
    HQ (w2.setCell ⟨q, 0, none⟩ (.slice (some ⟨g, 0, none⟩) (s.length + 1) c)) q (.slice (some ⟨g, 0, none⟩) (s.length + 1) c) (some b) p (s ++ [x]) ∧ Touch (fq q sl (some b)) w (w2.setCell ⟨q, 0, none⟩ (.slice (some ⟨g, 0, none⟩) (s.length + 1) c)) ∧ Nq w q sl (some b) (.slice (some ⟨g, 0, none⟩) (s.length + 1) c) (some b) := by
  have hbq := h.hc.map_ne h.mp
  have hsq : ¬ q ∈ sl.ownBlock.toList := fun e => by
    have e : sl.ownBlock = some q := by simpa using e
    exact row_ne h.hc h.row (by decide) q e rfl
  have hsb : ¬ b ∈ sl.ownBlock.toList := fun e => by
    have e : sl.ownBlock = some b := by simpa using e
    exact row_nm h.row h.mp b e rfl
  have C2 : HC w2 q sl (some b) p := h.hc.keep (ht.block q (block_lt h.hc) hsq)
  have M2 : MapAt w2 b (s.length + 1) (pmap (s ++ [x])) := h.mp.kept (ht.block b h.mp.lt hsb)
  have hgq : g ≠ q := row_ne C2 hr (by decide) g rfl
  have hlen : (s ++ [x]).length = s.length + 1 := by simp
  refine ⟨⟨C2.set0 _, ?_, Or.inr ⟨b, rfl, ?_⟩, nd_snocS hn hx, wf_snocS hw hxw, by rw [hlen]; omega⟩, ?_, ?_⟩
  · rw [hlen, flat_app, flat_one]
    exact own_keep hr (fun k hk => Below.heap_setCell _ _ _ _ (by simp [Value.ownBlock] at hk; rw [← hk]; exact hgq))
  · rw [hlen]
    exact M2.kept (Below.heap_setCell _ _ _ _ hbq)
  · exact (ht.mono (fun k hk => by simp [fq]; simp at hk; simp [hk])).setCell (by simp [fq]) _
  · intro k hk
    simp [fq, Value.ownBlock] at hk
    rcases hk with rfl | rfl | rfl
    · simp [fq]
    · rcases hg with hg | hg
      · left; simp [fq, hg]
      · exact Or.inr hg
    · simp [fq]
theorem assert77 (v : Value) (w : World) : (Instr.typeAssert (.iface 86 v) 20 86 false).run Try.prog w = .ok v w := by kernel_rfl
theorem Mid.make {w V : World} {q b : Nat} {sl : Value} {p : Int} {s : List Slot} {x : Slot} (h : HQ w q sl (some b) p s) (hx : ∀ y ∈ s, y.item ≠ x.item) (hxw : W64 x.item) (ht : Touch [] w V) :
    ∃ W, (Instr.mapUpdate 79 (.map (some b)) (.int .i64 x.item) (.int .i64 s.length)).run Try.prog V.drew = .ok () W ∧ Mid W q sl b p s x ∧ Touch [b] V W := by
  have h' := h.keep ht (fun _ _ e => by cases e)
  have hm := h'.map
  obtain ⟨o, hu, hm2⟩ := (show MapAt V.drew b s.length (pmap s) from hm.kept rfl).set (t := 79) Try.underlying79 (maxLen_big' h.le) hxw (.int .i64 s.length)
  have T : Touch [b] V (setBlock V.drew b o) := touch_setBlock (Touch.refl _ _).drew (by simp) o
  have hbq := h'.hc.map_ne hm
  refine ⟨_, hu, ⟨h'.hc.keep (T.block q (block_lt h'.hc) (by simpa using Ne.symm hbq)), own_touch h'.row T (fun k hk => by simpa using row_nm h'.row hm k hk), ?_⟩, T⟩
  have e : pmap s x.item = none := by unfold pmap; rw [idx_none.2 hx]; rfl
  exact (hm2.congr (fun k _ => pmap_snoc hx k)).same (by rw [e]; rfl)
set_option maxHeartbeats 2000000 in
set_option maxRecDepth 100000 in
theorem push89_some (w : World) (q b : Nat) (sl : Value) (p : Int) (s : List Slot) (x : Slot) (h : HQ w q sl (some b) p s) (hl : s.length < 65536) (hx : ∀ y ∈ s, y.item ≠ x.item) (hxw : W64 x.at_ ∧ W64 x.put ∧ W64 x.item) :
    Calls Try.prog 89 #[PT q, .iface 86 (sv x)] w fun e w' => e = .returned (.tuple #[]) ∧ ∃ sl', HQ w' q sl' (some b) p (s ++ [x]) ∧ Touch (fq q sl (some b)) w w' ∧ Nq w q sl (some b) sl' (some b) := by
  obtain ⟨i0, hi, hz0, hz1, hz2⟩ := info_parts info77
  obtain ⟨a0, c0', hsl⟩ := own_form h.row
  have hq := block_lt h.hc
  have q68 := eq68
  have c1 := h.hc.c1
  have c0 := h.hc.c0
  rw [hsl] at c0
  have h77 := assert77
  obtain ⟨V, hV⟩ : ∃ V, V = w.alloc (.cells #[.int .i64 x.at_, .int .i64 x.put, .int .i64 x.item] 86) := ⟨_, rfl⟩
  have TV : Touch [] w V := by rw [hV]; exact (Touch.refl _ _).alloc _
  obtain ⟨W, hu, M, TW⟩ := Mid.make (V := V) h hx hxw.2.2 TV

  have hne : w.heap.size ≠ b := by have := h.map.lt; omega
  have bxV : V.heap[w.heap.size]? = some (.cells #[.int .i64 x.at_, .int .i64 x.put, .int .i64 x.item] 86 (0, 0)) := by rw [hV]; exact heap_alloc_new w _
  have bxW : W.heap[w.heap.size]? = some (.cells #[.int .i64 x.at_, .int .i64 x.put, .int .i64 x.item] 86 (0, 0)) := TW.keep bxV (by simpa using hne)
  have v0 : V.cell? ⟨w.heap.size, 2, none⟩ = some (.int .i64 x.item) := by simp [World.cell?, bxV]
  have v1 : V.cell? ⟨q, 0, none⟩ = some (.slice a0 s.length c0') := by rw [← hsl]; exact (h.hc.keep (TV.block q hq (by simp))).c0
  have v2 : V.cell? ⟨q, 1, none⟩ = some (.map (some b)) := (h.hc.keep (TV.block q hq (by simp))).c1
  have hsn : ∀ k, k ∈ sl.ownBlock.toList → k ≠ w.heap.size := fun k hk => by
    have e : sl.ownBlock = some k := by simpa using hk
    have := (h.row.lt k e).2
    omega
  have hsq : ∀ k, k ∈ sl.ownBlock.toList → k ≠ q := fun k hk => by
    have e : sl.ownBlock = some k := by simpa using hk
    exact row_ne h.hc h.row (by decide) k e
  have z0 : ∀ w', Touch sl.ownBlock.toList W w' → w'.cell? ⟨q, 0, none⟩ = some sl := fun w' t => (M.hc.keep (t.block q (block_lt M.hc) (fun e => hsq q e rfl))).c0
  have zf : ∀ w', Touch sl.ownBlock.toList W w' → w'.frozen? ⟨q, 0, none⟩ = false := fun w' t => (M.hc.keep (t.block q (block_lt M.hc) (fun e => hsq q e rfl))).fr 0
  have kb : ∀ w', Touch sl.ownBlock.toList W w' → w'.heap[w.heap.size]? = some (.cells #[.int .i64 x.at_, .int .i64 x.put, .int .i64 x.item] 86 (0, 0)) := fun w' t => t.keep bxW (fun e => hsn _ e rfl)
  have z1 : ∀ w', Touch sl.ownBlock.toList W w' → w'.cell? ⟨w.heap.size, 0, none⟩ = some (.int .i64 x.at_) := fun w' t => by simp [World.cell?, kb w' t]
  have z2 : ∀ w', Touch sl.ownBlock.toList W w' → w'.cell? ⟨w.heap.size, 1, none⟩ = some (.int .i64 x.put) := fun w' t => by simp [World.cell?, kb w' t]
  have z3 : ∀ w', Touch sl.ownBlock.toList W w' → w'.cell? ⟨w.heap.size, 2, none⟩ = some (.int .i64 x.item) := fun w' t => by simp [World.cell?, kb w' t]
  have HO : Hid (∀ w', Touch [] W w' → w'.ownsRow 0 86 3 sl s.length (flat s)) := fun w' t => own_touch M.row t (fun _ _ e => by cases e)
  have hle : (s.length : Int) < 65536 := by omega
  have HTW : Hid (Touch (fq q sl (some b)) w W) := (TV.mono (fun _ e => by cases e)).trans' (TW.mono (by simp [fq]))
  have HW : Hid (W.heap.size ≤ W.heap.size ∧ w.heap.size ≤ W.heap.size) := ⟨Nat.le_refl _, HTW.out.size⟩
  have HA : Hid (∀ (w2 : World) (g c : Nat), w2.ownsRow 0 86 3 (.slice (some ⟨g, 0, none⟩) (s.length + 1) c) (s.length + 1) (flat s ++ [.int .i64 x.at_, .int .i64 x.put, .int .i64 x.item]) → Touch sl.ownBlock.toList W w2 → (sl.ownBlock = some g ∨ W.heap.size ≤ g) →
    ∃ sl', HQ (w2.setCell ⟨q, 0, none⟩ (.slice (some ⟨g, 0, none⟩) (s.length + 1) c)) q sl' (some b) p (s ++ [x]) ∧ Touch (fq q sl (some b)) w (w2.setCell ⟨q, 0, none⟩ (.slice (some ⟨g, 0, none⟩) (s.length + 1) c)) ∧ Nq w q sl (some b) sl' (some b)) := fun w2 g c hr ht hg => by
    obtain ⟨r1, r2, r3⟩ := M.after h.nd h.wf hx hxw hl hr ht hg
    refine ⟨_, r1, HTW.out.trans' r2, fun k hk => ?_⟩
    rcases r3 k hk with e | e
    · exact Or.inl e
    · exact Or.inr (Nat.le_trans HTW.out.size e)
  have HV := hid hV
  have HSl := hid hsl
  clear h hx hxw hsl M TV TW hV bxV bxW kb hsn hsq hne
  unfold PT sv
  go_enter Try.func89, Try.ntmps89
  go_wp2
  rw [← HV.out]
  go_region
  go_wp2
  have x0 := z0 W (Touch.refl _ _)
  have xa := z0 _ ((Touch.refl _ W).alloc (.cells #[.int .i64 x.at_, .int .i64 x.put, .int .i64 x.item] 86))
  have x1 := z1 W (Touch.refl _ _)
  have x2 := z2 W (Touch.refl _ _)
  have x3 := z3 W (Touch.refl _ _)
  have HZ := hid (And.intro z0 zf)
  clear z0 z1 z2 z3 zf v0 v1 v2 hu c0 c1 h77 q68
  go_region_law ((refine step_append_lies _ (by rfl) _ _ _ (by rfl) 0 86 i0 (.agg #[.int .i64 0, .int .i64 0, .int .i64 0]) 3 24 Try.underlying78 hi hz0 hz1 hz2 (by rfl) (by decide) sl s.length (flat s) (by rfl) (HO.out _ (by first | exact ((Touch.refl _ _).drew.alloc _) | exact ((Touch.refl _ _).alloc _).drew)) ⟨W.heap.size, 0, none⟩ 1 1 [.int .i64 x.at_, .int .i64 x.put, .int .i64 x.item] (by rfl) (by rfl) (cell_three_new _ _ _ _ _) (by simp [Value.oneCell']) (by decide) (by unfold maxLen; omega) (by omega) (by omega) _ rfl ?_; intro g c W2 hr hgrow hat hlt; have T2 : Touch sl.ownBlock.toList W W2 := (((Touch.refl _ W).alloc _).drew).grown hgrow (fun k hk => Or.inl (by simp [hk])); have HE := hid (HA.out W2 g c hr T2 (by rcases hat with e | e; exact Or.inl e; right; rw [e]; simp)); have y0 := HZ.out.1 W2 T2; have yf := HZ.out.2 W2 T2; clear hr hgrow hat hlt T2))
  all_goals
    go_end0
    exact ⟨rfl, HE.out⟩
theorem none_world (w : World) (q : Nat) (sl : Value) (p : Int) (o : Obj) (h : HQ w q sl none p []) :
    HQ (((w.setCell ⟨q, 1, none⟩ (.map (some (w.heap.size + 1)))).alloc o).alloc (.map #[] 0)) q sl (some (w.heap.size + 1)) p [] ∧ Touch [q] w (((w.setCell ⟨q, 1, none⟩ (.map (some (w.heap.size + 1)))).alloc o).alloc (.map #[] 0)) := by
  have hq := block_lt h.hc
  have C1 := h.hc.set1 (some (w.heap.size + 1))
  have s1 : (w.setCell ⟨q, 1, none⟩ (.map (some (w.heap.size + 1)))).heap.size = w.heap.size := by simp [World.setCell]
  have T : Touch [q] w (((w.setCell ⟨q, 1, none⟩ (.map (some (w.heap.size + 1)))).alloc o).alloc (.map #[] 0)) := (((Touch.refl _ _).setCell (by simp) _).alloc _).alloc _
  refine ⟨⟨?_, ?_, Or.inr ⟨_, rfl, ?_⟩, h.nd, h.wf, h.le⟩, T⟩
  · refine C1.keep ?_
    rw [Below.heap_alloc _ _ _ (by simp [World.setCell]; omega), Below.heap_alloc _ _ _ (by rw [s1]; exact hq)]
  · exact own_touch h.row T (fun k hk => by simpa using row_ne h.hc h.row (by decide) k hk)
  · have := mapAt_made ((w.setCell ⟨q, 1, none⟩ (.map (some (w.heap.size + 1)))).alloc o)
    have e : ((w.setCell ⟨q, 1, none⟩ (.map (some (w.heap.size + 1)))).alloc o).heap.size = w.heap.size + 1 := by simp [World.setCell]
    rw [e] at this
    exact this.congr (fun k _ => rfl)
set_option maxHeartbeats 2000000 in
set_option maxRecDepth 100000 in
theorem push89_none (w : World) (q : Nat) (sl : Value) (p : Int) (x : Slot) (h : HQ w q sl none p []) (hxw : W64 x.at_ ∧ W64 x.put ∧ W64 x.item) :
    Calls Try.prog 89 #[PT q, .iface 86 (sv x)] w fun e w' => e = .returned (.tuple #[]) ∧ ∃ sl' b', HQ w' q sl' (some b') p [x] ∧ Touch (fq q sl none) w w' ∧ Nq w q sl none sl' (some b') := by
  obtain ⟨i0, hi, hz0, hz1, hz2⟩ := info_parts info77
  obtain ⟨a0, c0', hsl⟩ := own_form h.row
  have hq := block_lt h.hc
  have q68 := eq68
  have c1 := h.hc.c1
  have f1 := h.hc.fr 1
  have hmm := @run_makeMap Try.prog
  have h77 := assert77
  obtain ⟨V, hV⟩ : ∃ V, V = ((w.setCell ⟨q, 1, none⟩ (.map (some (w.heap.size + 1)))).alloc (.cells #[.int .i64 x.at_, .int .i64 x.put, .int .i64 x.item] 86)).alloc (.map #[] 0) := ⟨_, rfl⟩
  obtain ⟨hN, TV⟩ := none_world w q sl p (.cells #[.int .i64 x.at_, .int .i64 x.put, .int .i64 x.item] 86) h
  rw [← hV] at hN TV
  have bxV : V.heap[w.heap.size]? = some (.cells #[.int .i64 x.at_, .int .i64 x.put, .int .i64 x.item] 86 (0, 0)) := by
    rw [hV]
    have s1 : (w.setCell ⟨q, 1, none⟩ (.map (some (w.heap.size + 1)))).heap.size = w.heap.size := by simp [World.setCell]
    rw [Below.heap_alloc _ _ _ (by simp [World.setCell])]
    have := heap_alloc_new (w.setCell ⟨q, 1, none⟩ (.map (some (w.heap.size + 1)))) (.cells #[.int .i64 x.at_, .int .i64 x.put, .int .i64 x.item] 86)
    rw [s1] at this
    exact this
  obtain ⟨b, hb⟩ : ∃ b, b = w.heap.size + 1 := ⟨_, rfl⟩
  rw [← hb] at hN
  obtain ⟨W, hu, M, TW⟩ := Mid.make (V := V) hN (x := x) (by simp) hxw.2.2 (Touch.refl _ _)
  have hne : w.heap.size ≠ b := by omega
  have bxW : W.heap[w.heap.size]? = some (.cells #[.int .i64 x.at_, .int .i64 x.put, .int .i64 x.item] 86 (0, 0)) := TW.keep bxV (by simpa using hne)
  have v0 : V.cell? ⟨w.heap.size, 2, none⟩ = some (.int .i64 x.item) := by simp [World.cell?, bxV]
  have v1 : V.cell? ⟨q, 0, none⟩ = some (.slice a0 0 c0') := by have := hN.hc.c0; rw [hsl] at this; exact this
  have v2 : V.cell? ⟨q, 1, none⟩ = some (.map (some b)) := hN.hc.c1
  have hsn : ∀ k, k ∈ sl.ownBlock.toList → k ≠ w.heap.size := fun k hk => by
    have e : sl.ownBlock = some k := by simpa using hk
    have := (h.row.lt k e).2
    omega
  have hsq : ∀ k, k ∈ sl.ownBlock.toList → k ≠ q := fun k hk => by
    have e : sl.ownBlock = some k := by simpa using hk
    exact row_ne h.hc h.row (by decide) k e
  have z0 : ∀ w', Touch sl.ownBlock.toList W w' → w'.cell? ⟨q, 0, none⟩ = some sl := fun w' t => (M.hc.keep (t.block q (block_lt M.hc) (fun e => hsq q e rfl))).c0
  have zf : ∀ w', Touch sl.ownBlock.toList W w' → w'.frozen? ⟨q, 0, none⟩ = false := fun w' t => (M.hc.keep (t.block q (block_lt M.hc) (fun e => hsq q e rfl))).fr 0
  have kb : ∀ w', Touch sl.ownBlock.toList W w' → w'.heap[w.heap.size]? = some (.cells #[.int .i64 x.at_, .int .i64 x.put, .int .i64 x.item] 86 (0, 0)) := fun w' t => t.keep bxW (fun e => hsn _ e rfl)
  have z1 : ∀ w', Touch sl.ownBlock.toList W w' → w'.cell? ⟨w.heap.size, 0, none⟩ = some (.int .i64 x.at_) := fun w' t => by simp [World.cell?, kb w' t]
  have z2 : ∀ w', Touch sl.ownBlock.toList W w' → w'.cell? ⟨w.heap.size, 1, none⟩ = some (.int .i64 x.put) := fun w' t => by simp [World.cell?, kb w' t]
  have z3 : ∀ w', Touch sl.ownBlock.toList W w' → w'.cell? ⟨w.heap.size, 2, none⟩ = some (.int .i64 x.item) := fun w' t => by simp [World.cell?, kb w' t]
  have HO : Hid (∀ w', Touch [] W w' → w'.ownsRow 0 86 3 sl 0 []) := fun w' t => own_touch M.row t (fun _ _ e => by cases e)
  have HTW : Hid (Touch (fq q sl none) w W) := (TV.mono (by simp [fq])).trans TW (fun i hi => by simp only [List.mem_singleton] at hi; subst hi; right; omega)
  have HA : Hid (∀ (w2 : World) (g c : Nat), w2.ownsRow 0 86 3 (.slice (some ⟨g, 0, none⟩) (0 + 1) c) (0 + 1) ([] ++ [.int .i64 x.at_, .int .i64 x.put, .int .i64 x.item]) → Touch sl.ownBlock.toList W w2 → (sl.ownBlock = some g ∨ W.heap.size ≤ g) →
    ∃ sl' b', HQ (w2.setCell ⟨q, 0, none⟩ (.slice (some ⟨g, 0, none⟩) 1 c)) q sl' (some b') p [x] ∧ Touch (fq q sl none) w (w2.setCell ⟨q, 0, none⟩ (.slice (some ⟨g, 0, none⟩) 1 c)) ∧ Nq w q sl none sl' (some b')) := fun w2 g c hr ht hg => by
    obtain ⟨r1, r2, r3⟩ := M.after h.nd h.wf (by simp) hxw (by simp) hr ht hg
    have hz := HTW.out.size
    refine ⟨_, b, r1, HTW.out.trans r2 (fun i hi => ?_), fun k hk => ?_⟩
    · simp [fq] at hi ⊢
      rcases hi with e | e | e
      · exact Or.inl (Or.inl e)
      · exact Or.inl (Or.inr e)
      · right; omega
    · rcases r3 k hk with e | e
      · simp [fq] at e ⊢
        rcases e with e | e | e
        · exact Or.inl (Or.inl e)
        · exact Or.inl (Or.inr e)
        · right; omega
      · exact Or.inr (Nat.le_trans hz e)
  have hu : (Instr.mapUpdate 79 (.map (some b)) (.int .i64 x.item) (.int .i64 0)).run Try.prog V.drew = .ok () W := hu
  have HV := hid hV
  have HB := hid hb
  clear h hxw M TV TW hV bxV bxW kb hsn hsq hne hN hb hsl
  unfold PT sv
  go_enter Try.func89, Try.ntmps89
  go_wp2
  rw [← HV.out, ← HB.out]
  go_region
  go_wp2
  have x0 := z0 W (Touch.refl _ _)
  have xa := z0 _ ((Touch.refl _ W).alloc (.cells #[.int .i64 x.at_, .int .i64 x.put, .int .i64 x.item] 86))
  have x1 := z1 W (Touch.refl _ _)
  have x2 := z2 W (Touch.refl _ _)
  have x3 := z3 W (Touch.refl _ _)
  have HZ := hid (And.intro z0 zf)
  clear z0 z1 z2 z3 zf v0 v1 v2 hu c1 h77 q68 f1 hmm
  go_region_law ((refine step_append_lies _ (by rfl) _ _ _ (by rfl) 0 86 i0 (.agg #[.int .i64 0, .int .i64 0, .int .i64 0]) 3 24 Try.underlying78 hi hz0 hz1 hz2 (by rfl) (by decide) sl 0 [] (by rfl) (HO.out _ (by first | exact ((Touch.refl _ _).drew.alloc _) | exact ((Touch.refl _ _).alloc _).drew)) ⟨W.heap.size, 0, none⟩ 1 1 [.int .i64 x.at_, .int .i64 x.put, .int .i64 x.item] (by rfl) (by rfl) (cell_three_new _ _ _ _ _) (by simp [Value.oneCell']) (by decide) (by unfold maxLen; omega) (by omega) (by omega) _ rfl ?_; intro g c W2 hr hgrow hat hlt; have T2 : Touch sl.ownBlock.toList W W2 := (((Touch.refl _ W).alloc _).drew).grown hgrow (fun k hk => Or.inl (by simp [hk])); have HE := hid (HA.out W2 g c hr T2 (by rcases hat with e | e; exact Or.inl e; right; rw [e]; simp)); have y0 := HZ.out.1 W2 T2; have yf := HZ.out.2 W2 T2; clear hr hgrow hat hlt T2))
  all_goals
    go_end0
    exact ⟨rfl, HE.out⟩
theorem pop_slice {w : World} {g c : Nat} {s : List Slot} {x : Slot} (h : w.ownsRow 0 86 3 (.slice (some ⟨g, 0, none⟩) (s ++ [x]).length c) (s ++ [x]).length (flat (s ++ [x]))) : w.ownsRow 0 86 3 (.slice (some ⟨g, 0, none⟩) s.length c) s.length (flat s) := by
  obtain ⟨cur, hc, hn, hm, hs, ht, hg, hl⟩ := own_block h
  refine ⟨flat_len s, Or.inr ⟨g, c, cur, rfl, hg, hc, by simp at hn; omega, hm, hs, ?_⟩⟩
  have : (cur.toList.take ((s ++ [x]).length * 3)).take (s.length * 3) = (flat (s ++ [x])).take (s.length * 3) := by rw [ht]
  rw [List.take_take, Nat.min_eq_left (by simp; omega)] at this
  rw [this, flat_app, List.take_append_of_le_length (by rw [flat_len]; exact Nat.le_refl _), List.take_of_length_le (by rw [flat_len]; exact Nat.le_refl _)]
structure Out (w : World) (q : Nat) (sl : Value) (b : Nat) (p : Int) (s : List Slot) (x : Slot) : Prop where
  hc : HC w q sl (some b) p
  row : w.ownsRow 0 86 3 sl s.length (flat s)
  mp : MapAt w b (s.length + 1) (pmap (s ++ [x]))
  nd : Nd (s ++ [x])
  wf : WfS (s ++ [x])
  le : s.length < 65536
set_option maxHeartbeats 2000000 in
set_option maxRecDepth 100000 in
theorem pop88 (w : World) (q b : Nat) (sl : Value) (p : Int) (s : List Slot) (x : Slot) (h : HQ w q sl (some b) p (s ++ [x])) :
    Calls Try.prog 88 #[PT q] w fun e w' => e = .returned (.iface 86 (sv x)) ∧ ∃ sl', Out w' q sl' b p s x ∧ Touch (fq q sl (some b)) w w' ∧ Nq w q sl (some b) sl' (some b) := by
  have hlen : (s ++ [x]).length = s.length + 1 := by simp
  obtain ⟨g, c, rfl⟩ := h.slice (by simp)
  have hle := h.le
  rw [hlen] at hle
  have hgx : gt (s ++ [x]) s.length = x := by rw [gt_eq (by simp)]; simp
  obtain ⟨x0, x1, x2⟩ := flat_at (s ++ [x]) s.length (by simp)
  rw [hgx] at x0 x1 x2
  have a0 := own_cell h.row x0
  have a1 := own_cell h.row x1
  have a2 := own_cell h.row x2
  have c0 := h.hc.c0
  have f0 := h.hc.fr 0
  have hgq : g ≠ q := row_ne h.hc h.row (by decide) g rfl
  have hbq := h.hc.map_ne h.map
  have hq := block_lt h.hc
  obtain ⟨cur, hcur, hnc, _⟩ := own_block h.row
  rw [hlen] at hnc c0
  have zc : ((s.length : Int) + 1) ≤ (c : Int) := by omega
  have zl : (s.length : Int) < 65536 := by omega
  have e1 : (((s.length + 1 : Nat) : Int)) = (s.length : Int) + 1 := by omega
  have HA : Hid (∀ w2, Touch [q] w w2 → HC w2 q (.slice (some ⟨g, 0, none⟩) s.length c) (some b) p → ∃ sl', Out w2 q sl' b p s x ∧ Touch (fq q (.slice (some ⟨g, 0, none⟩) (s ++ [x]).length c) (some b)) w w2 ∧ Nq w q (.slice (some ⟨g, 0, none⟩) (s ++ [x]).length c) (some b) sl' (some b)) := fun w2 t C2 => by
    refine ⟨_, ⟨C2, own_touch (pop_slice h.row) t (fun k hk => by simp [Value.ownBlock] at hk; subst hk; simpa using hgq), ?_, h.nd, h.wf, by omega⟩, t.mono (by simp [fq]), fun k hk => Or.inl (by simpa [fq, Value.ownBlock] using hk)⟩
    have := h.map
    rw [hlen] at this
    exact this.kept (t.block b this.lt (by simpa using hbq))
  have HC0 := hid h.hc
  have hne : w.heap.size ≠ q := by omega
  rw [hlen] at HA
  rw [hlen]
  clear h x0 x1 x2 hcur hlen hgx
  generalize s.length = n at *
  unfold PT sv
  go_enter Try.func88, Try.ntmps88
  go_wp2
  go_ret
  refine ⟨rfl, HA.out _ ?_ ?_⟩
  · first | exact ((Touch.refl _ _).setCell (by simp) _).alloc _ | exact ((Touch.refl _ _).alloc _).setCell (by simp) _
  · refine HC.keep (HC0.out.set0 _) ?_
    first | exact Below.heap_alloc _ _ _ (by simp [World.setCell]; omega) | skip
end Go.Proofs.Ytaioegefoiabhaa
