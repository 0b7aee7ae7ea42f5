/- The document's sorted list of keys: it is in order and holds the same keys; the list's bytes are within the form's reach. -/
import Derived.Test.YtcdikdiopklcgaaGreatDoorQba
import Derived.Deep.QuietTactic
import Derived.Deep.AppendLies
import Derived.OwnWalk
import Derived.Lib.SmallJoins
import Derived.Shelf.SlSortCmp.QuietGrown
namespace Go.Proofs.YtcdikdiopklcgaaGreatDoor.Ds
open So (cmpK leK cb_lt cb_gt cb_eq cb_end)
open Go.RowKit Go.Sort Go.Maps Go.ChangeMaps
set_option linter.unusedVariables false
def Gr (w w' : World) : Prop := ∃ q os, w' = grow (w.drewN q) os
theorem Gr.refl (w : World) : Gr w w := ⟨0, #[], by rw [grow_empty]; rfl⟩
theorem Gr.alloc {w w' : World} (h : Gr w w') (o : Obj) : Gr w (w'.alloc o) := by
  obtain ⟨q, os, rfl⟩ := h
  exact ⟨q, os ++ #[o], by rw [alloc_eq_grow, grow_grow]⟩
theorem Gr.grow {w w' : World} (h : Gr w w') (n : Nat) (os' : Array Obj) : Gr w (grow (w'.drewN n) os') := by
  obtain ⟨q, os, rfl⟩ := h
  exact ⟨q + n, os ++ os', by show Sort.grow (Sort.grow ((w.drewN q).drewN n) os) os' = _; rw [grow_grow, World.drewN_drewN]⟩
theorem Gr.drewN {w w' : World} (h : Gr w w') (n : Nat) : Gr w (w'.drewN n) := by
  have := h.grow n #[]
  rwa [grow_empty] at this
theorem Gr.drew {w w' : World} (h : Gr w w') : Gr w w'.drew := h.drewN 1
theorem Gr.trans {a b c : World} (h : Gr a b) (k : Gr b c) : Gr a c := by
  obtain ⟨q, os, rfl⟩ := k
  exact h.grow q os
theorem Gr.touch {w w' : World} (h : Gr w w') : Touch [] w w' := by
  obtain ⟨q, os, rfl⟩ := h
  exact ⟨rfl, rfl, rfl, by rw [size_grow]; exact Nat.le_add_right _ _, fun k hk _ => heap_grow_old _ _ hk⟩
def cmpI (a b : Int) : Int := if a < b then -1 else if b < a then 1 else 0
theorem cmpI_ (a b : Int) (w : World) : Calls Tryz.prog 79 #[.int .u16 a, .int .u16 b] w fun e w' => e = .returned (.int .i64 (cmpI a b)) ∧ w' = w := by
  rcases Int.lt_trichotomy a b with h | h | h
  · go_enter Tryz.func79, Tryz.ntmps79
    go_wp2
    go_ret
    exact ⟨by simp [cmpI, h], rfl⟩
  · subst h
    go_enter Tryz.func79, Tryz.ntmps79
    go_wp2
    go_ret
    exact ⟨by simp [cmpI], rfl⟩
  · have h' : ¬ a < b := by omega
    go_enter Tryz.func79, Tryz.ntmps79
    go_wp2
    go_ret
    exact ⟨by simp [cmpI, h, h'], rfl⟩
set_option maxHeartbeats 1000000 in
/-- The document's. -/
theorem dcmp_ (a b : Int) (s t : ByteArray) (w : World) (hs : s.size ≤ maxLen) (ht : t.size ≤ maxLen) :
    Calls Tryz.prog 35 #[.agg #[.int .u16 a, .string s], .agg #[.int .u16 b, .string t]] w fun e w' => e = .returned (.int .i64 (cmpK a s b t)) ∧ Gr w w' := by
  unfold maxLen at hs ht
  have mixed : Tryz.prog.follows .mixedOrders = true := by kernel_rfl
  rcases Int.lt_trichotomy a b with h | h | h
  · have h0 : a ≠ b := by omega
    go_enter Tryz.func35, Tryz.ntmps35
    go_wp2
    go_ret
    exact ⟨by simp [cmpK, h], ((Gr.refl _).alloc _).alloc _⟩
  · subst h
    have hc : cmpK a s a t = Lib.compareBytes s.data.toList t.data.toList := by simp [cmpK]
    rw [hc]
    clear hc
    go_enter Tryz.func35, Tryz.ntmps35
    go_wp2
    go_loopw [5] (fun i wr => ∃ k n : Nat, i = .int .i64 k ∧ k ≤ s.size ∧ k ≤ t.size ∧ Hid (s.data.toList.take k = t.data.toList.take k) ∧ wr = ((w.alloc (.cells #[.int .u16 a, .string s] 42)).alloc (.cells #[.int .u16 a, .string t] 42)).drewN n) (fun i _ => s.size - (intOf i).toNat)
    case atStart => exact ⟨0, 0, rfl, Nat.zero_le _, Nat.zero_le _, rfl, rfl⟩
    case round =>
      obtain ⟨k, n, rfl, hks, hkt, H, rfl⟩ := hrel
      by_cases h1 : k < s.size
      · have h1z : (k : Int) < (s.size : Int) := by omega
        by_cases h2 : k < t.size
        · have h2z : (k : Int) < (t.size : Int) := by omega
          by_cases hl : (s[k].toNat : Int) < (t[k].toNat : Int)
          · go_wp2
            go_quiet (fail)
            go_wp2
            go_ret
            exact ⟨by rw [cb_lt s t k h1 h2 H.out hl]; rfl, by repeat (first | exact Gr.refl _ | apply Gr.alloc | apply Gr.drewN | apply Gr.drew)⟩
          · by_cases hg : (t[k].toNat : Int) < (s[k].toNat : Int)
            · go_wp2
              go_quiet (fail)
              go_wp2
              go_quiet (fail)
              go_wp2
              go_ret
              exact ⟨by rw [cb_gt s t k h1 h2 H.out hg]; rfl, by repeat (first | exact Gr.refl _ | apply Gr.alloc | apply Gr.drewN | apply Gr.drew)⟩
            · have HE : Hid _ := cb_eq s t k h1 h2 H.out hl hg
              go_wp2
              go_quiet (fail)
              go_wp2
              go_quiet (fail)
              go_wp2
              go_roundw
              case rel => exact ⟨k + 1, _, by go_num, by omega, by omega, HE, rfl⟩
              case measure => simp [intOf]; omega
        · have h2z : ¬ (k : Int) < (t.size : Int) := by omega
          have HE : Hid _ := cb_end s t k hks hkt H.out (by omega)
          have h3 : (t.size : Int) < (s.size : Int) := by omega
          have h4 : ¬ (s.size : Int) < (t.size : Int) := by omega
          go_wp2
          go_ret
          exact ⟨by rw [HE.out, if_neg (by omega), if_pos (by omega)]; rfl, by repeat (first | exact Gr.refl _ | apply Gr.alloc | apply Gr.drewN | apply Gr.drew)⟩
      · have h1z : ¬ (k : Int) < (s.size : Int) := by omega
        have HE : Hid _ := cb_end s t k hks hkt H.out (by omega)
        by_cases h2 : k < t.size
        · have h3 : (s.size : Int) < (t.size : Int) := by omega
          go_wp2
          go_ret
          exact ⟨by rw [HE.out, if_pos (by omega)]; rfl, by repeat (first | exact Gr.refl _ | apply Gr.alloc | apply Gr.drewN | apply Gr.drew)⟩
        · have h3 : ¬ (s.size : Int) < (t.size : Int) := by omega
          have h4 : ¬ (t.size : Int) < (s.size : Int) := by omega
          go_wp2
          go_ret
          exact ⟨by rw [HE.out, if_neg (by omega), if_neg (by omega)]; rfl, by repeat (first | exact Gr.refl _ | apply Gr.alloc | apply Gr.drewN | apply Gr.drew)⟩
  · have h0 : a ≠ b := by omega
    have h' : ¬ a < b := by omega
    go_enter Tryz.func35, Tryz.ntmps35
    go_wp2
    go_ret
    exact ⟨by simp [cmpK, h, h'], ((Gr.refl _).alloc _).alloc _⟩
end Go.Proofs.YtcdikdiopklcgaaGreatDoor.Ds
namespace Go.Proofs.YtcdikdiopklcgaaGreatDoor.Ds
open So (cmpK leK ins_sorted gap_step gap_end gap_len gap_at perm_step)
open Go.RowKit Go.Sort Go.Maps Go.ChangeMaps
set_option linter.unusedVariables false
theorem Gr.below {w w' : World} (h : Gr w w') : Below w.heap.size w w' := by
  obtain ⟨q, os, rfl⟩ := h
  exact ⟨rfl, rfl, rfl, by rw [size_grow]; exact Nat.le_add_right _ _, fun k hk => heap_grow_old _ _ hk⟩
theorem Gr.cell {w w' : World} (hg : Gr w w') {a : Addr} {v : Value} (h : w.cell? a = some v) (hb : a.block < w.heap.size) : w'.cell? a = some v := by
  rw [hg.below.cell hb]; exact h
theorem Gr.size {w w' : World} (hg : Gr w w') : w.heap.size ≤ w'.heap.size := hg.below.size
theorem gr_grow (w : World) (n : Nat) (os : Array Obj) : Gr w (grow (w.drewN n) os) := ⟨n, os, rfl⟩

structure Row (w : World) (b off : Nat) (xs : List K) : Prop where
  lt : b < w.heap.size
  at0 : ∀ i (h : i < xs.length), w.cell? ⟨b, off + i * 2, none⟩ = some (.int .u16 xs[i].1)
  at1 : ∀ i (h : i < xs.length), w.cell? ⟨b, off + i * 2 + 1, none⟩ = some (.string xs[i].2)
theorem Row.below {w w' : World} {b off : Nat} {xs : List K} (h : Row w b off xs) (hb : Below w.heap.size w w') : Row w' b off xs :=
  ⟨Nat.lt_of_lt_of_le h.lt hb.size, fun i hi => by rw [hb.cell (by exact h.lt)]; exact h.at0 i hi, fun i hi => by rw [hb.cell (by exact h.lt)]; exact h.at1 i hi⟩
def Sl (w : World) (v : Value) (xs : List K) : Prop := (xs = [] ∧ ∃ a cap, v = .slice a 0 cap) ∨ ∃ b off cap, v = .slice (some ⟨b, off, none⟩) xs.length cap ∧ Row w b off xs
theorem Sl.below {w w' : World} {v : Value} {xs : List K} (h : Sl w v xs) (hb : Below w.heap.size w w') : Sl w' v xs := by
  rcases h with h | ⟨b, off, cap, hv, hr⟩
  · exact Or.inl h
  · exact Or.inr ⟨b, off, cap, hv, hr.below hb⟩
theorem Sl.gr {w w' : World} {v : Value} {xs : List K} (h : Sl w v xs) (hg : Gr w w') : Sl w' v xs := h.below hg.below

def cellK2 (xs : List K) : List Value := xs.flatMap fun x => [.int .u16 x.1, .string x.2]
theorem cellK2_app (xs ys : List K) : cellK2 (xs ++ ys) = cellK2 xs ++ cellK2 ys := by unfold cellK2; simp
theorem cellK2_one (x : K) : cellK2 [x] = [.int .u16 x.1, .string x.2] := rfl
theorem cellK2_len (xs : List K) : (cellK2 xs).length = xs.length * 2 := by
  induction xs with
  | nil => rfl
  | cons x xs ih => rw [show x :: xs = [x] ++ xs from rfl, cellK2_app, List.length_append, ih, cellK2_one]; simp; omega
theorem cellK2_at0 : ∀ (xs : List K) (i : Nat) (h : i < xs.length), (cellK2 xs)[i * 2]? = some (.int .u16 xs[i].1)
  | x :: xs, 0, _ => rfl
  | x :: xs, i + 1, h => by
    rw [show (i + 1) * 2 = i * 2 + 1 + 1 by omega]
    exact cellK2_at0 xs i (by simpa using h)
theorem cellK2_at1 : ∀ (xs : List K) (i : Nat) (h : i < xs.length), (cellK2 xs)[i * 2 + 1]? = some (.string xs[i].2)
  | x :: xs, 0, _ => rfl
  | x :: xs, i + 1, h => by
    rw [show (i + 1) * 2 + 1 = i * 2 + 1 + 1 + 1 by omega]
    exact cellK2_at1 xs i (by simpa using h)
theorem owns_below {w w' : World} {base e size n : Nat} {v : Value} {xs : List Value} (h : w.ownsRow base e size v n xs) (hb : Below w.heap.size w w') : w'.ownsRow base e size v n xs := by
  obtain ⟨h1, h2⟩ := h
  refine ⟨h1, ?_⟩
  rcases h2 with h2 | ⟨g, cap, cur, hv, hg, hc, r⟩
  · exact Or.inl h2
  · refine Or.inr ⟨g, cap, cur, hv, hg, ?_, r⟩
    rw [hb.block g (by
      rcases Nat.lt_or_ge g w.heap.size with h | h
      · exact h
      · rw [Array.getElem?_eq_none h] at hc; cases hc)]
    exact hc
theorem owns_row {w : World} {base e g cap : Nat} {xs : List K} (h : w.ownsRow base e 2 (.slice (some ⟨g, 0, none⟩) xs.length cap) xs.length (cellK2 xs)) : Row w g 0 xs := by
  obtain ⟨h1, h2 | ⟨g', cap', cur, hv, hg, hc, hn, hm, hs, ht⟩⟩ := h
  · cases h2.1
  · simp only [Value.slice.injEq, Option.some.injEq, Addr.mk.injEq, and_true, true_and] at hv
    obtain ⟨rfl, rfl⟩ := hv
    have hlt : g < w.heap.size := by
      rcases Nat.lt_or_ge g w.heap.size with h | h
      · exact h
      · rw [Array.getElem?_eq_none h] at hc; cases hc
    have hcell : ∀ j, w.cell? ⟨g, j, none⟩ = cur[j]? := fun j => by simp [World.cell?, hc]
    have hj : ∀ j, j < xs.length * 2 → cur[j]? = (cellK2 xs)[j]? := fun j hj => by
      rw [← ht, List.getElem?_take_of_lt hj, Array.getElem?_toList]
    refine ⟨hlt, fun i hi => ?_, fun i hi => ?_⟩
    · rw [hcell, Nat.zero_add, hj _ (by omega), cellK2_at0 xs i hi]
    · rw [hcell, Nat.zero_add, hj _ (by omega), cellK2_at1 xs i hi]
theorem owns_base {w : World} {base e size g k c n : Nat} {xs : List Value} (h : w.ownsRow base e size (.slice (some ⟨g, 0, none⟩) k c) n xs) : base ≤ g := by
  obtain ⟨_, h2 | ⟨g', _, _, hv, hg, _⟩⟩ := h
  · cases h2.1
  · simp only [Value.slice.injEq, Option.some.injEq, Addr.mk.injEq, and_true] at hv
    rw [hv.1]
    exact hg
theorem infoRK : (Tryz.prog.info? 42).map (fun i => (i.zero, i.size, i.bytes)) = some (some (.agg #[.int .u16 0, .string ⟨#[]⟩]), 2, 24) := by kernel_rfl
theorem cell_two_new (w : World) (x y : Value) (t : TypeId) : ∀ j u, [x, y][j]? = some u → (w.alloc (.cells #[x, y] t)).cell? ((⟨w.heap.size, 0, none⟩ : Addr).add j) = some u := by
  intro j u hj
  match j, hj with
  | 0, hj => simp at hj; subst hj; simp [Addr.add]
  | 1, hj => simp at hj; subst hj; simp [Addr.add]

theorem cellK2_set : ∀ (L : List K) (i : Nat) (x : K), i < L.length → cellK2 (L.set i x) = ((cellK2 L).set (i * 2) (.int .u16 x.1)).set (i * 2 + 1) (.string x.2)
  | a :: L, 0, x, _ => rfl
  | a :: L, i + 1, x, h => by
    have ih := cellK2_set L i x (by simpa using h)
    rw [List.set_cons_succ, show a :: L.set i x = [a] ++ L.set i x from rfl, show a :: L = [a] ++ L from rfl, cellK2_app, cellK2_app, ih, cellK2_one]
    rw [show (i + 1) * 2 = i * 2 + 1 + 1 by omega, show i * 2 + 1 + 1 + 1 = (i * 2 + 1) + 1 + 1 by omega]
    rfl
theorem owns_block {w : World} {base e g c n : Nat} {xs : List Value} (h : w.ownsRow base e 2 (.slice (some ⟨g, 0, none⟩) n c) n xs) :
    ∃ cur, w.heap[g]? = some (.cells cur e (0, 0)) ∧ n ≤ c ∧ c ≤ maxLen ∧ cur.size = c * 2 ∧ cur.toList.take (n * 2) = xs ∧ base ≤ g ∧ xs.length = n * 2 := by
  obtain ⟨h1, h2 | ⟨g', cap', cur, hv, hg, hc, hn, hm, hs, ht⟩⟩ := h
  · cases h2.1
  · simp only [Value.slice.injEq, Option.some.injEq, Addr.mk.injEq, and_true, true_and] at hv
    obtain ⟨rfl, rfl⟩ := hv
    exact ⟨cur, hc, hn, hm, hs, ht, hg, h1⟩
theorem owns_at {w : World} {base e g c : Nat} {L : List K} (h : w.ownsRow base e 2 (.slice (some ⟨g, 0, none⟩) L.length c) L.length (cellK2 L)) (i : Nat) (hi : i < L.length) :
    w.cell? ⟨g, i * 2, none⟩ = some (.int .u16 L[i].1) ∧ w.cell? ⟨g, i * 2 + 1, none⟩ = some (.string L[i].2) ∧ w.frozen? ⟨g, i * 2, none⟩ = false ∧ w.frozen? ⟨g, i * 2 + 1, none⟩ = false := by
  have R := owns_row h
  obtain ⟨cur, hc, _⟩ := owns_block h
  have r0 := R.at0 i hi
  have r1 := R.at1 i hi
  rw [Nat.zero_add] at r0 r1
  exact ⟨r0, r1, Joins.unfrozen_of_block hc _, Joins.unfrozen_of_block hc _⟩
theorem owns_set {w : World} {base e g c : Nat} {L : List K} (h : w.ownsRow base e 2 (.slice (some ⟨g, 0, none⟩) L.length c) L.length (cellK2 L)) (i : Nat) (hi : i < L.length) (x : Int) (y : ByteArray) :
    ((w.setCell ⟨g, i * 2, none⟩ (.int .u16 x)).setCell ⟨g, i * 2 + 1, none⟩ (.string y)).ownsRow base e 2 (.slice (some ⟨g, 0, none⟩) (L.set i (x, y)).length c) (L.set i (x, y)).length (cellK2 (L.set i (x, y))) := by
  obtain ⟨cur, hc, hn, hm, hs, ht, hg, hl⟩ := owns_block h
  rw [List.length_set]
  refine ⟨by rw [cellK2_len, List.length_set], Or.inr ⟨g, c, (cur.setIfInBounds (i * 2) (.int .u16 x)).setIfInBounds (i * 2 + 1) (.string y), rfl, hg, ?_, hn, hm, by simp [hs], ?_⟩⟩
  · exact Joins.block_setCell (Joins.block_setCell hc _) _
  · rw [Array.toList_setIfInBounds, Array.toList_setIfInBounds, List.take_set, List.take_set, ht, cellK2_set L i (x, y) hi]

theorem set_far (w : World) (p a : Addr) (v : Value) (h : p.block ≠ a.block) : (w.setCell p v).cell? a = w.cell? a := World.cell?_of_block (Below.heap_setCell w p v a.block (Ne.symm h))

def Names (xs : List K) : Prop := ∀ x ∈ xs, x.2.size ≤ maxLen

set_option maxHeartbeats 4000000 in
theorem dsort__row (xs : List K) (b off cap : Nat) (w : World) (hl : xs.length * 24 ≤ 140737488351232) (hN : Names xs) (R : Row w b off xs) :
    Calls Tryz.prog 15 #[.slice (some ⟨b, off, none⟩) xs.length cap] w fun e w' => ∃ v ys, e = .returned v ∧ Sl w' v ys ∧ ys.Perm xs ∧ ys.Pairwise leK ∧ Below w.heap.size w w' := by
  obtain ⟨i0, hi, hz0, hz1, hz2'⟩ := info_parts infoRK
  have mixed : Tryz.prog.follows .mixedOrders = true := by kernel_rfl
  have HR : Hid _ := R
  have HNm : Hid _ := hN
  clear R hN
  go_enter Tryz.func15, Tryz.ntmps15
  go_wp2
  go_loopw [3, 11] (fun t i wr => ∃ (k g c : Nat) (S : List K), i = .int .i64 k ∧ k ≤ xs.length ∧ Hid (S.Perm (xs.take k) ∧ S.Pairwise leK) ∧ Hid (S.length = k) ∧ t = .slice (some ⟨g, 0, none⟩) S.length c ∧ wr.ownsRow w.heap.size 42 2 (.slice (some ⟨g, 0, none⟩) S.length c) S.length (cellK2 S) ∧ Below w.heap.size w wr) (fun _ i _ => xs.length - (intOf i).toNat)
  case atStart => exact ⟨0, w.heap.size, 0, [], rfl, Nat.zero_le _, ⟨List.Perm.refl _, List.Pairwise.nil⟩, rfl, rfl, ⟨rfl, Or.inr ⟨w.heap.size, 0, #[], rfl, Nat.le_refl _, heap_alloc_new w _, Nat.le_refl _, by unfold maxLen; omega, rfl, rfl⟩⟩, (Below.refl _ _).alloc (Nat.le_refl _) _⟩
  case round =>
    obtain ⟨k, g, c, S, rfl, hk, HS, HSl, rfl, hown, hb⟩ := hrel
    obtain ⟨wo, rfl⟩ : ∃ wo, wo = wr := ⟨_, rfl⟩
    by_cases hlt : k < xs.length
    · have hz : (k : Int) < (xs.length : Int) := by omega
      have hz' : (0 : Int) ≤ (k : Int) := by omega
      have f0 : wo.cell? ⟨b, off + k * 2, none⟩ = some (.int .u16 xs[k].1) := by rw [hb.cell (by exact HR.out.lt)]; exact HR.out.at0 k hlt
      have f1 : wo.cell? ⟨b, off + k * 2 + 1, none⟩ = some (.string xs[k].2) := by rw [hb.cell (by exact HR.out.lt)]; exact HR.out.at1 k hlt
      have HX : Hid (∀ i, (S.take i ++ (xs[k].1, xs[k].2) :: S.drop i).Perm (xs.take (k + 1))) := fun i => perm_step xs S k i hlt HS.out.1
      have hyn : Hid (xs[k].2.size ≤ maxLen) := HNm.out _ (List.getElem_mem hlt)
      have HSN : Hid (∀ j (h : j < S.length), S[j].2.size ≤ maxLen) := fun j h => HNm.out _ (List.mem_of_mem_take (HS.out.1.mem_iff.1 (List.getElem_mem h)))
      have HO : Hid _ := hown
      have HB : Hid _ := hb
      clear hown hb
      generalize xs[k].1 = x at *
      generalize xs[k].2 = y at *
      go_wp2
      obtain ⟨W1, hW1⟩ : ∃ W1, W1 = wo.alloc (.cells #[.int .u16 x, .string y] 42) := ⟨_, rfl⟩
      have B1 : Below wo.heap.size wo W1 := by rw [hW1]; exact (Below.refl _ _).alloc (Nat.le_refl _) _
      have Row1 : Hid (Row W1 g 0 S) := owns_row (owns_below HO.out B1)
      have c0 : W1.cell? ⟨wo.heap.size, 0, none⟩ = some (.int .u16 x) := by rw [hW1]; simp
      have c1 : W1.cell? ⟨wo.heap.size, 1, none⟩ = some (.string y) := by rw [hW1]; simp
      have z1 : wo.heap.size < W1.heap.size := by rw [hW1]; simp
      have C0 : Hid _ := c0
      have C1 : Hid _ := c1
      have BW : Hid (Below wo.heap.size wo W1) := B1
      rw [← hW1]
      clear hW1 B1 c0 c1 f0 f1
      go_loopw [6] (fun i wr => ∃ (j : Nat), i = .int .i64 j ∧ j ≤ S.length ∧ Hid (∀ m (h : m < S.length), j ≤ m → cmpK x y S[m].1 S[m].2 < 0) ∧ Gr W1 wr) (fun i _ => (intOf i).toNat)
      case atStart => exact ⟨S.length, rfl, Nat.le_refl _, fun m h h' => by omega, Gr.refl _⟩
      case round =>
        obtain ⟨j, rfl, hj, HJ, GW⟩ := hrel
        have d0 : ∀ n os, (grow (wr.drewN n) os).cell? ⟨wo.heap.size, 0, none⟩ = some (.int .u16 x) := fun n os => (GW.grow n os).cell C0.out (by exact z1)
        have d1 : ∀ n os, (grow (wr.drewN n) os).cell? ⟨wo.heap.size, 1, none⟩ = some (.string y) := fun n os => (GW.grow n os).cell C1.out (by exact z1)
        have HGW : Hid (Gr W1 wr) := GW
        by_cases hj0 : 0 < j
        · obtain ⟨jp, rfl⟩ : ∃ jp, j = jp + 1 := ⟨j - 1, by omega⟩
          have hjl : jp < S.length := by omega
          have hjz : (0 : Int) < (jp : Int) + 1 := by omega
          have e0 : ∀ n os, (grow (wr.drewN n) os).cell? ⟨g, jp * 2, none⟩ = some (.int .u16 S[jp].1) := fun n os => by have := (GW.grow n os).cell (Row1.out.at0 jp hjl) (by exact Row1.out.lt); rwa [Nat.zero_add] at this
          have e1 : ∀ n os, (grow (wr.drewN n) os).cell? ⟨g, jp * 2 + 1, none⟩ = some (.string S[jp].2) := fun n os => by have := (GW.grow n os).cell (Row1.out.at1 jp hjl) (by exact Row1.out.lt); rwa [Nat.zero_add] at this
          have hwp : IntKind.i64.wrap (jp : Int) = (jp : Int) := by have := HSl.out; rw [IntKind.wrap_i64]; omega
          have jz1 : (jp : Int) < (S.length : Int) := by omega
          have hyn' := HSN.out jp hjl
          have HJS : Hid (cmpK x y S[jp].1 S[jp].2 < 0 → ∀ m (h : m < S.length), jp ≤ m → cmpK x y S[m].1 S[m].2 < 0) := fun hc m h hm => by
            by_cases e : m = jp
            · subst e; exact hc
            · exact HJ.out m h (by omega)
          have HST : Hid (¬ cmpK x y S[jp].1 S[jp].2 < 0 → ∀ m (h : m < S.length), m + 1 = jp + 1 → 0 ≤ cmpK x y S[m].1 S[m].2) := fun hc m h e => by
            obtain rfl : m = jp := by omega
            omega
          have A : Hid _ := fun w => dcmp_ x S[jp].1 y S[jp].2 w hyn.out hyn'
          clear GW hyn'
          generalize hcv : cmpK x y S[jp].1 S[jp].2 = cv at *
          have HCV : Hid _ := hcv
          clear hcv
          generalize S[jp].1 = x' at *
          generalize S[jp].2 = y' at *
          by_cases hc : cv < 0
          · go_wp2_with fail
            go_quiet_grown (first | (go_at_call 35; refine Calls.grown_of (A.out _)))
            go_wp2
            go_roundw
            case rel => exact ⟨jp, by go_num, by omega, HJS.out hc, HGW.out.grow _ _⟩
            case measure => simp [intOf]
          · have HSTOP : Hid (∀ m (h : m < S.length), m + 1 = jp + 1 → 0 ≤ cmpK x y S[m].1 S[m].2) := HST.out hc
            have hcz : ¬ cv < 0 := hc
            clear HST HJS
            go_wp2_with fail
            go_quiet_grown (first | (go_at_call 35; refine Calls.grown_of (A.out _)))
            obtain ⟨V, hV⟩ : ∃ V, V = grow (wr.drewN nq) osq := ⟨_, rfl⟩
            have HV : Hid (Gr wr V) := by rw [hV]; exact gr_grow _ _ _
            rw [← hV]
            clear hV e0 e1 d0 d1 A
            obtain ⟨j, hjj⟩ : ∃ j, j = jp + 1 := ⟨_, rfl⟩
            have HSTP : Hid (∀ m (h : m < S.length), m + 1 = j → 0 ≤ cmpK x y S[m].1 S[m].2) := by subst hjj; exact HSTOP
            have hjj' : (jp : Int) + 1 = (j : Int) := by omega
            have hcd : decide (cv < 0) = false := decide_eq_false (by omega)
            simp only [hjj', hcd]
            rw [← hjj] at hj HJ
            clear HSTOP hwp jz1 hc hcz hcd hjz HCV hjl hj0 hjj hjj'
            have GV : Gr W1 V := HGW.out.trans HV.out
            have BB : Below wo.heap.size wo V := BW.out.trans (GV.below.mono (by omega))
            have hown2 := owns_below HO.out BB
            have hbw : Below w.heap.size w V := HB.out.trans (BB.mono HB.out.size)
            have hsz := hbw.size
            have hz2 := GV.size
            have D0 : Hid (V.cell? ⟨wo.heap.size, 0, none⟩ = some (.int .u16 x)) := GV.cell C0.out (by exact z1)
            have D1 : Hid (V.cell? ⟨wo.heap.size, 1, none⟩ = some (.string y)) := GV.cell C1.out (by exact z1)
            have HC : Hid (cellK2 (S.take S.length ++ (0, ⟨#[]⟩) :: S.drop S.length) = cellK2 S ++ [.int .u16 0, .string ⟨#[]⟩]) := by show _ = _; rw [List.take_length, List.drop_length, cellK2_app, cellK2_one]
            have hgo : g < wo.heap.size := by
              have := owns_row HO.out
              exact this.lt
            have hSb : S.length * 24 ≤ 140737488351232 := by have := HSl.out; omega
            clear GV BB HV HGW
            go_wp2_with (at_builtin; refine wpList_append_lies _ rfl _ _ 34 rfl w.heap.size 42 i0 (.agg #[.int .u16 0, .string ⟨#[]⟩]) 2 24 Tryz.underlying34 hi hz0 hz1 hz2' rfl (by decide) _ _ _ rfl (hown2.alloc _) ⟨V.heap.size, 0, none⟩ 1 1 [.int .u16 0, .string ⟨#[]⟩] rfl rfl (cell_two_new _ _ _ _) (by simp [Value.oneCell']) (by decide) (by unfold maxLen; omega) (by omega) (by simp; omega) _ rfl ?_; intro g1 c1 w3 hown3 hgrow hat hlt3)
            have hne : g1 ≠ wo.heap.size := by
              rcases hat with h | h
              · have h2 : some g = some g1 := h
                cases h2
                omega
              · simp at h
                omega
            have hB3 : Below w.heap.size w w3 := (hbw.alloc hsz _).grown hgrow (by simp; omega) (fun j hj => by
              have h1 := owns_base hown2
              have h2 : some g = some j := hj
              cases h2
              exact h1)
            have E0 : Hid (w3.cell? ⟨wo.heap.size, 0, none⟩ = some (.int .u16 x)) := by
              show _ = _
              rw [World.cell?_of_block (hgrow.block wo.heap.size (by simp; omega) (fun h => by
                have h2 : some wo.heap.size = some g := h
                cases h2
                omega)), World.cell?_of_block (Below.heap_alloc V _ wo.heap.size (by omega))]
              exact D0.out
            have E1 : Hid (w3.cell? ⟨wo.heap.size, 1, none⟩ = some (.string y)) := by
              show _ = _
              rw [World.cell?_of_block (hgrow.block wo.heap.size (by simp; omega) (fun h => by
                have h2 : some wo.heap.size = some g := h
                cases h2
                omega)), World.cell?_of_block (Below.heap_alloc V _ wo.heap.size (by omega))]
              exact D1.out
            have O3 : Hid (w3.ownsRow w.heap.size 42 2 (.slice (some ⟨g1, 0, none⟩) (S.length + 1) c1) (S.length + 1) (cellK2 (S.take S.length ++ (0, ⟨#[]⟩) :: S.drop S.length))) := by
              show World.ownsRow _ _ _ _ _ _ _
              rw [HC.out]
              exact hown3
            have HB3 : Hid _ := hB3
            clear hat hgrow D0 D1 hown3 hown2 hbw hsz hB3 HC hz2
            go_wp2_with fail
            go_loopw [7] (fun i wr => ∃ (m : Nat) (z : K), i = .int .i64 m ∧ j ≤ m ∧ m ≤ S.length ∧ Hid (wr.ownsRow w.heap.size 42 2 (.slice (some ⟨g1, 0, none⟩) (S.length + 1) c1) (S.length + 1) (cellK2 (S.take m ++ z :: S.drop m))) ∧ Hid (Below w.heap.size w wr) ∧ Hid (wr.cell? ⟨wo.heap.size, 0, none⟩ = some (.int .u16 x)) ∧ Hid (wr.cell? ⟨wo.heap.size, 1, none⟩ = some (.string y))) (fun i _ => (intOf i).toNat)
            case atStart => exact ⟨S.length, (0, ⟨#[]⟩), by go_num, hj, Nat.le_refl _, O3, HB3, E0, E1⟩
            case round =>
              obtain ⟨m, z, rfl, hjm, hm, HW, HBW, F0, F1⟩ := hrel
              have hgl := gap_len S m z hm
              by_cases hmj : j < m
              · obtain ⟨mp, rfl⟩ : ∃ mp, m = mp + 1 := ⟨m - 1, by omega⟩
                have hmz : (j : Int) < (mp : Int) + 1 := by omega
                have hw' := HW.out
                rw [← hgl] at hw'
                obtain ⟨r0, r1, r2, r3⟩ := owns_at hw' mp (by omega)
                obtain ⟨q0, q1, q2, q3⟩ := owns_at hw' (mp + 1) (by omega)
                have hst := owns_set hw' (mp + 1) (by omega) S[mp].1 S[mp].2
                rw [gap_at S mp z (by omega)] at r0 r1
                rw [show (S[mp].1, S[mp].2) = S[mp] from rfl, gap_step S mp z (by omega)] at hst
                have HST : Hid _ := hst
                have i1 : (mp : Int) < (S.length : Int) + 1 := by omega
                have i2 : (mp : Int) + 1 < (S.length : Int) + 1 := by omega
                have i3 : (0 : Int) ≤ (mp : Int) + 1 := by omega
                have i4 : ((mp : Int) + 1).toNat = mp + 1 := by omega
                have i5 : (0 : Int) ≤ (mp : Int) := by omega
                have hg1 : w.heap.size ≤ g1 := owns_base HW.out
                clear hst hw'
                generalize S[mp].1 = x' at *
                generalize S[mp].2 = y' at *
                go_wp2
                go_roundw
                case rel =>
                  refine ⟨mp, S[mp], by go_num, by omega, by omega, ?_, ?_, ?_, ?_⟩
                  · show World.ownsRow _ _ _ _ _ _ _
                    have h := HST.out
                    rw [gap_len S mp _ (by omega)] at h
                    exact h
                  · exact (HBW.out.setCell (by exact hg1) _).setCell (by exact hg1) _
                  · show _ = _
                    rw [set_far _ _ _ _ (by exact hne), set_far _ _ _ _ (by exact hne)]
                    exact F0.out
                  · show _ = _
                    rw [set_far _ _ _ _ (by exact hne), set_far _ _ _ _ (by exact hne)]
                    exact F1.out
                case measure => simp [intOf]
              · obtain rfl : m = j := by omega
                have hw' := HW.out
                rw [← hgl] at hw'
                obtain ⟨q0, q1, q2, q3⟩ := owns_at hw' m (by omega)
                have hst := owns_set hw' m (by omega) x y
                rw [gap_end S m z (x, y) hm] at hst
                have HST : Hid _ := hst
                have p0 := F0.out
                have p1 := F1.out
                have i2 : (m : Int) < (S.length : Int) + 1 := by omega
                have i3 : (0 : Int) ≤ (m : Int) := by omega
                have hg1 : w.heap.size ≤ g1 := owns_base HW.out
                clear hst hw'
                go_wp2
                go_roundw
                case rel =>
                  have hk1 := HSl.out
                  have hlen := gap_len S m (x, y) hm
                  refine ⟨k + 1, g1, c1, S.take m ++ (x, y) :: S.drop m, by go_num, by omega, ⟨HX.out m, ?_⟩, by show _ = _; omega, by rw [hlen], ?_, ?_⟩
                  · exact ins_sorted S m (x, y) hm HS.out.2 (fun a h ha => HJ.out a h ha) (fun h => Int.not_lt.2 (HSTP.out (m - 1) (by omega) (by omega)))
                  · exact HST.out
                  · exact (HBW.out.setCell (by exact hg1) _).setCell (by exact hg1) _
                case measure => simp [intOf]; omega
        · have HSTP : Hid (∀ m (h : m < S.length), m + 1 = j → 0 ≤ cmpK x y S[m].1 S[m].2) := fun m h e => by omega
          have hjz : decide ((j : Int) > 0) = false := decide_eq_false (by omega)
          have hjz' : ¬ (0 : Int) < (j : Int) := by omega
          clear GW
          go_wp2_with fail
          go_quiet (fail)
          obtain ⟨V, hV⟩ : ∃ V, V = wr.drewN nq := ⟨_, rfl⟩
          have HV : Hid (Gr wr V) := by rw [hV]; exact (Gr.refl _).drewN _
          rw [← hV]
          clear hV d0 d1 hjz hjz'
          have GV : Gr W1 V := HGW.out.trans HV.out
          have BB : Below wo.heap.size wo V := BW.out.trans (GV.below.mono (by omega))
          have hown2 := owns_below HO.out BB
          have hbw : Below w.heap.size w V := HB.out.trans (BB.mono HB.out.size)
          have hsz := hbw.size
          have hz2 := GV.size
          have D0 : Hid (V.cell? ⟨wo.heap.size, 0, none⟩ = some (.int .u16 x)) := GV.cell C0.out (by exact z1)
          have D1 : Hid (V.cell? ⟨wo.heap.size, 1, none⟩ = some (.string y)) := GV.cell C1.out (by exact z1)
          have HC : Hid (cellK2 (S.take S.length ++ (0, ⟨#[]⟩) :: S.drop S.length) = cellK2 S ++ [.int .u16 0, .string ⟨#[]⟩]) := by show _ = _; rw [List.take_length, List.drop_length, cellK2_app, cellK2_one]
          have hgo : g < wo.heap.size := by
            have := owns_row HO.out
            exact this.lt
          have hSb : S.length * 24 ≤ 140737488351232 := by have := HSl.out; omega
          clear GV BB HV HGW
          go_wp2_with (at_builtin; refine wpList_append_lies _ rfl _ _ 34 rfl w.heap.size 42 i0 (.agg #[.int .u16 0, .string ⟨#[]⟩]) 2 24 Tryz.underlying34 hi hz0 hz1 hz2' rfl (by decide) _ _ _ rfl (hown2.alloc _) ⟨V.heap.size, 0, none⟩ 1 1 [.int .u16 0, .string ⟨#[]⟩] rfl rfl (cell_two_new _ _ _ _) (by simp [Value.oneCell']) (by decide) (by unfold maxLen; omega) (by omega) (by simp; omega) _ rfl ?_; intro g1 c1 w3 hown3 hgrow hat hlt3)
          have hne : g1 ≠ wo.heap.size := by
            rcases hat with h | h
            · have h2 : some g = some g1 := h
              cases h2
              omega
            · simp at h
              omega
          have hB3 : Below w.heap.size w w3 := (hbw.alloc hsz _).grown hgrow (by simp; omega) (fun j hj => by
            have h1 := owns_base hown2
            have h2 : some g = some j := hj
            cases h2
            exact h1)
          have E0 : Hid (w3.cell? ⟨wo.heap.size, 0, none⟩ = some (.int .u16 x)) := by
            show _ = _
            rw [World.cell?_of_block (hgrow.block wo.heap.size (by simp; omega) (fun h => by
              have h2 : some wo.heap.size = some g := h
              cases h2
              omega)), World.cell?_of_block (Below.heap_alloc V _ wo.heap.size (by omega))]
            exact D0.out
          have E1 : Hid (w3.cell? ⟨wo.heap.size, 1, none⟩ = some (.string y)) := by
            show _ = _
            rw [World.cell?_of_block (hgrow.block wo.heap.size (by simp; omega) (fun h => by
              have h2 : some wo.heap.size = some g := h
              cases h2
              omega)), World.cell?_of_block (Below.heap_alloc V _ wo.heap.size (by omega))]
            exact D1.out
          have O3 : Hid (w3.ownsRow w.heap.size 42 2 (.slice (some ⟨g1, 0, none⟩) (S.length + 1) c1) (S.length + 1) (cellK2 (S.take S.length ++ (0, ⟨#[]⟩) :: S.drop S.length))) := by
            show World.ownsRow _ _ _ _ _ _ _
            rw [HC.out]
            exact hown3
          have HB3 : Hid _ := hB3
          clear hat hgrow D0 D1 hown3 hown2 hbw hsz hB3 HC hz2
          go_wp2_with fail
          go_loopw [7] (fun i wr => ∃ (m : Nat) (z : K), i = .int .i64 m ∧ j ≤ m ∧ m ≤ S.length ∧ Hid (wr.ownsRow w.heap.size 42 2 (.slice (some ⟨g1, 0, none⟩) (S.length + 1) c1) (S.length + 1) (cellK2 (S.take m ++ z :: S.drop m))) ∧ Hid (Below w.heap.size w wr) ∧ Hid (wr.cell? ⟨wo.heap.size, 0, none⟩ = some (.int .u16 x)) ∧ Hid (wr.cell? ⟨wo.heap.size, 1, none⟩ = some (.string y))) (fun i _ => (intOf i).toNat)
          case atStart => exact ⟨S.length, (0, ⟨#[]⟩), by go_num, hj, Nat.le_refl _, O3, HB3, E0, E1⟩
          case round =>
            obtain ⟨m, z, rfl, hjm, hm, HW, HBW, F0, F1⟩ := hrel
            have hgl := gap_len S m z hm
            by_cases hmj : j < m
            · obtain ⟨mp, rfl⟩ : ∃ mp, m = mp + 1 := ⟨m - 1, by omega⟩
              have hmz : (j : Int) < (mp : Int) + 1 := by omega
              have hw' := HW.out
              rw [← hgl] at hw'
              obtain ⟨r0, r1, r2, r3⟩ := owns_at hw' mp (by omega)
              obtain ⟨q0, q1, q2, q3⟩ := owns_at hw' (mp + 1) (by omega)
              have hst := owns_set hw' (mp + 1) (by omega) S[mp].1 S[mp].2
              rw [gap_at S mp z (by omega)] at r0 r1
              rw [show (S[mp].1, S[mp].2) = S[mp] from rfl, gap_step S mp z (by omega)] at hst
              have HST : Hid _ := hst
              have i1 : (mp : Int) < (S.length : Int) + 1 := by omega
              have i2 : (mp : Int) + 1 < (S.length : Int) + 1 := by omega
              have i3 : (0 : Int) ≤ (mp : Int) + 1 := by omega
              have i4 : ((mp : Int) + 1).toNat = mp + 1 := by omega
              have i5 : (0 : Int) ≤ (mp : Int) := by omega
              have hg1 : w.heap.size ≤ g1 := owns_base HW.out
              clear hst hw'
              generalize S[mp].1 = x' at *
              generalize S[mp].2 = y' at *
              go_wp2
              go_roundw
              case rel =>
                refine ⟨mp, S[mp], by go_num, by omega, by omega, ?_, ?_, ?_, ?_⟩
                · show World.ownsRow _ _ _ _ _ _ _
                  have h := HST.out
                  rw [gap_len S mp _ (by omega)] at h
                  exact h
                · exact (HBW.out.setCell (by exact hg1) _).setCell (by exact hg1) _
                · show _ = _
                  rw [set_far _ _ _ _ (by exact hne), set_far _ _ _ _ (by exact hne)]
                  exact F0.out
                · show _ = _
                  rw [set_far _ _ _ _ (by exact hne), set_far _ _ _ _ (by exact hne)]
                  exact F1.out
              case measure => simp [intOf]
            · obtain rfl : m = j := by omega
              have hw' := HW.out
              rw [← hgl] at hw'
              obtain ⟨q0, q1, q2, q3⟩ := owns_at hw' m (by omega)
              have hst := owns_set hw' m (by omega) x y
              rw [gap_end S m z (x, y) hm] at hst
              have HST : Hid _ := hst
              have p0 := F0.out
              have p1 := F1.out
              have i2 : (m : Int) < (S.length : Int) + 1 := by omega
              have i3 : (0 : Int) ≤ (m : Int) := by omega
              have hg1 : w.heap.size ≤ g1 := owns_base HW.out
              clear hst hw'
              go_wp2
              go_roundw
              case rel =>
                have hk1 := HSl.out
                have hlen := gap_len S m (x, y) hm
                refine ⟨k + 1, g1, c1, S.take m ++ (x, y) :: S.drop m, by go_num, by omega, ⟨HX.out m, ?_⟩, by show _ = _; omega, by rw [hlen], ?_, ?_⟩
                · exact ins_sorted S m (x, y) hm HS.out.2 (fun a h ha => HJ.out a h ha) (fun h => Int.not_lt.2 (HSTP.out (m - 1) (by omega) (by omega)))
                · exact HST.out
                · exact (HBW.out.setCell (by exact hg1) _).setCell (by exact hg1) _
              case measure => simp [intOf]; omega
    · have hz : ¬ (k : Int) < (xs.length : Int) := by omega
      obtain rfl : k = xs.length := by omega
      have hS := HS.out
      rw [List.take_length] at hS
      clear HS
      go_wp2
      go_ret
      exact ⟨_, rfl, S, Or.inr ⟨_, _, _, rfl, owns_row hown⟩, hS.1, hS.2, hb⟩
theorem dsort__nil (a : Option Addr) (cap : Nat) (w : World) :
    Calls Tryz.prog 15 #[.slice a 0 cap] w fun e w' => ∃ v ys, e = .returned v ∧ Sl w' v ys ∧ ys.Perm [] ∧ ys.Pairwise leK ∧ Below w.heap.size w w' := by
  go_enter Tryz.func15, Tryz.ntmps15
  go_wp2
  go_loop [3, 11] (fun t i => t = .slice (some ⟨w.heap.size, 0, none⟩) 0 0 ∧ i = .int .i64 0) (fun _ _ => 0)
  case atStart => exact ⟨rfl, rfl⟩
  case round =>
    obtain ⟨rfl, rfl⟩ := hrel
    go_wp2
    go_ret
    exact ⟨_, rfl, [], Or.inl ⟨rfl, _, _, rfl⟩, rfl, List.Pairwise.nil, (Below.refl _ _).alloc (Nat.le_refl _) _⟩
theorem dsort_ (xs : List K) (v : Value) (w : World) (hl : xs.length * 24 ≤ 140737488351232) (hN : Names xs) (R : Sl w v xs) :
    Calls Tryz.prog 15 #[v] w fun e w' => ∃ v ys, e = .returned v ∧ Sl w' v ys ∧ ys.Perm xs ∧ ys.Pairwise leK ∧ Below w.heap.size w w' := by
  rcases R with ⟨rfl, a, cap, rfl⟩ | ⟨b, off, cap, rfl, R⟩
  · exact dsort__nil a cap w
  · exact dsort__row xs b off cap w hl hN R
theorem Below.touch {w w' : World} (b : Below w.heap.size w w') : Touch [] w w' := ⟨b.os, b.tape, b.output, b.size, fun k hk _ => b.block k hk⟩
end Go.Proofs.YtcdikdiopklcgaaGreatDoor.Ds
