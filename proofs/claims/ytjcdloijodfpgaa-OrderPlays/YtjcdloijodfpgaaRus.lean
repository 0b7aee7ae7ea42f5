/- The contract of the document's Use; there are at most seventy thousand keys. -/
import Derived.Test.YtjcdloijodfpgaaRhk
namespace Go.Proofs.Ytjcdloijodfpgaa
open Go.RowKit Go.Sort Go.Maps Go.ChangeMaps Go.WideMaps
set_option linter.unusedVariables false
set_option linter.unusedSimpArgs false
structure UsS (w : World) (most : Int) (v : Value) (kk : K) (wr : World) : Prop where
  b0 : wr.heap[w.heap.size]? = some (.cells #[.int .i64 most, v] 31 (0, 0))
  b1 : wr.heap[w.heap.size + 1]? = some (.cells #[.int .u16 kk.1, .string kk.2] 44 (0, 0))
  b2 : wr.heap[w.heap.size + 1 + 1]? = some (.cells #[.int .i64 0, .slice none 0 0] 31 (0, 0))
  b3 : wr.heap[w.heap.size + 1 + 1 + 1]? = some (.cells #[.int .u16 0, .string ⟨#[]⟩] 44 (0, 0))
  t : Touch [] w wr
  sz : w.heap.size + 4 ≤ wr.heap.size
theorem UsS.keep {w wr wr' : World} {most : Int} {v : Value} {kk : K} {G : List Nat} (h : UsS w most v kk wr) (t : Touch G wr wr') (hG : ∀ k ∈ G, w.heap.size + 4 ≤ k) : UsS w most v kk wr' :=
  ⟨t.keep h.b0 (fun hh => by have := hG _ hh; omega), t.keep h.b1 (fun hh => by have := hG _ hh; omega), t.keep h.b2 (fun hh => by have := hG _ hh; omega), t.keep h.b3 (fun hh => by have := hG _ hh; omega), h.t.trans t (fun i hi => Or.inr (by have := hG i hi; omega)), Nat.le_trans h.sz t.size⟩
theorem UsS.set {w wr : World} {most : Int} {v : Value} {kk : K} (h : UsS w most v kk wr) (v' : Value) : UsS w most v' kk (wr.setCell ⟨w.heap.size, 1, none⟩ v') :=
  ⟨bset h.b0 _, (Below.heap_setCell _ _ _ _ (by show w.heap.size + 1 ≠ w.heap.size; omega)).trans h.b1, (Below.heap_setCell _ _ _ _ (by show w.heap.size + 1 + 1 ≠ w.heap.size; omega)).trans h.b2, (Below.heap_setCell _ _ _ _ (by show w.heap.size + 1 + 1 + 1 ≠ w.heap.size; omega)).trans h.b3, h.t.setCell (Or.inr (Nat.le_refl _)) _, by simpa [World.setCell] using h.sz⟩
theorem UsS.set0 {w wr : World} {most : Int} {v : Value} {kk : K} (h : UsS w most v kk wr) : UsS w most v kk (wr.setCell ⟨w.heap.size, 0, none⟩ (.int .i64 most)) :=
  ⟨bset h.b0 _, (Below.heap_setCell _ _ _ _ (by show w.heap.size + 1 ≠ w.heap.size; omega)).trans h.b1, (Below.heap_setCell _ _ _ _ (by show w.heap.size + 1 + 1 ≠ w.heap.size; omega)).trans h.b2, (Below.heap_setCell _ _ _ _ (by show w.heap.size + 1 + 1 + 1 ≠ w.heap.size; omega)).trans h.b3, h.t.setCell (Or.inr (Nat.le_refl _)) _, by simpa [World.setCell] using h.sz⟩
theorem UsS.start (w : World) (most : Int) (v : Value) (kk : K) : UsS w most v kk ((((w.alloc (.cells #[.int .i64 most, v] 31)).alloc (.cells #[.int .u16 kk.1, .string kk.2] 44)).alloc (.cells #[.int .i64 0, .slice none 0 0] 31)).alloc (.cells #[.int .u16 0, .string ⟨#[]⟩] 44)) := by
  refine ⟨?_, ?_, ?_, ?_, ((((Touch.refl _ _).alloc _).alloc _).alloc _).alloc _, by simp⟩
  · exact (Below.heap_alloc _ _ _ (by simp; omega)).trans ((Below.heap_alloc _ _ _ (by simp; omega)).trans ((Below.heap_alloc _ _ _ (by simp)).trans (heap_alloc_new w _)))
  · have := heap_alloc_new (w.alloc (.cells #[.int .i64 most, v] 31)) (.cells #[.int .u16 kk.1, .string kk.2] 44)
    rw [World.size_alloc] at this
    exact (Below.heap_alloc _ _ _ (by simp)).trans ((Below.heap_alloc _ _ _ (by simp)).trans this)
  · have := heap_alloc_new ((w.alloc (.cells #[.int .i64 most, v] 31)).alloc (.cells #[.int .u16 kk.1, .string kk.2] 44)) (.cells #[.int .i64 0, .slice none 0 0] 31)
    rw [World.size_alloc, World.size_alloc] at this
    exact (Below.heap_alloc _ _ _ (by simp)).trans this
  · have := heap_alloc_new (((w.alloc (.cells #[.int .i64 most, v] 31)).alloc (.cells #[.int .u16 kk.1, .string kk.2] 44)).alloc (.cells #[.int .i64 0, .slice none 0 0] 31)) (.cells #[.int .u16 0, .string ⟨#[]⟩] 44)
    rwa [World.size_alloc, World.size_alloc, World.size_alloc] at this
section
variable {w wr : World} {most : Int} {v : Value} {kk : K}
theorem UsS.p0 (h : UsS w most v kk wr) : wr.cell? ⟨w.heap.size, 0, none⟩ = some (.int .i64 most) := by have := h.b0; simp [World.cell?, this]
theorem UsS.p1 (h : UsS w most v kk wr) : wr.cell? ⟨w.heap.size, 1, none⟩ = some v := by have := h.b0; simp [World.cell?, this]
theorem UsS.p2 (h : UsS w most v kk wr) (i : Nat) : wr.frozen? ⟨w.heap.size, i, none⟩ = false := by have := h.b0; simp [World.frozen?, this]
theorem UsS.k0 (h : UsS w most v kk wr) : wr.cell? ⟨w.heap.size + 1, 0, none⟩ = some (.int .u16 kk.1) := by have := h.b1; simp [World.cell?, this]
theorem UsS.k1 (h : UsS w most v kk wr) : wr.cell? ⟨w.heap.size + 1, 1, none⟩ = some (.string kk.2) := by have := h.b1; simp [World.cell?, this]
theorem UsS.r0 (h : UsS w most v kk wr) : wr.cell? ⟨w.heap.size + 1 + 1, 0, none⟩ = some (.int .i64 0) ∧ wr.cell? ⟨w.heap.size + 1 + 1, 1, none⟩ = some (.slice none 0 0) ∧ wr.frozen? ⟨w.heap.size + 1 + 1, 0, none⟩ = false ∧ wr.frozen? ⟨w.heap.size + 1 + 1, 1, none⟩ = false := by have := h.b2; simp [World.cell?, World.frozen?, this]
theorem UsS.g0 (h : UsS w most v kk wr) : wr.cell? ⟨w.heap.size + 1 + 1 + 1, 0, none⟩ = some (.int .u16 0) ∧ wr.cell? ⟨w.heap.size + 1 + 1 + 1, 1, none⟩ = some (.string ⟨#[]⟩) ∧ wr.frozen? ⟨w.heap.size + 1 + 1 + 1, 0, none⟩ = false ∧ wr.frozen? ⟨w.heap.size + 1 + 1 + 1, 1, none⟩ = false := by have := h.b3; simp [World.cell?, World.frozen?, this]
end
/-- What is answered is stored behind all. -/
theorem us_end {w wr : World} (t : Touch [] w wr) {v : Value} {xs : List K} {N : Nat} {zs : List Value} (hr : wr.ownsRow (w.heap.size + 4) 44 2 v N zs) (hN : xs.length = N) (hz : cellsK xs = zs) (most : Int) (g : K) :
    RK ((((wr.setCell ⟨w.heap.size + 1 + 1, 0, none⟩ (.int .i64 most)).setCell ⟨w.heap.size + 1 + 1, 1, none⟩ v).setCell ⟨w.heap.size + 1 + 1 + 1, 0, none⟩ (.int .u16 g.1)).setCell ⟨w.heap.size + 1 + 1 + 1, 1, none⟩ (.string g.2)) v xs ∧
    Touch [] w ((((wr.setCell ⟨w.heap.size + 1 + 1, 0, none⟩ (.int .i64 most)).setCell ⟨w.heap.size + 1 + 1, 1, none⟩ v).setCell ⟨w.heap.size + 1 + 1 + 1, 0, none⟩ (.int .u16 g.1)).setCell ⟨w.heap.size + 1 + 1 + 1, 1, none⟩ (.string g.2)) := by
  subst hN hz
  refine ⟨own_zero (own_keep hr (fun b hb => ?_)), (((t.setCell (Or.inr ?_) _).setCell (Or.inr ?_) _).setCell (Or.inr ?_) _).setCell (Or.inr ?_) _⟩
  · have := (hr.lt b hb).1
    exact (Below.heap_setCell _ _ _ _ (by show b ≠ w.heap.size + 1 + 1 + 1; omega)).trans ((Below.heap_setCell _ _ _ _ (by show b ≠ w.heap.size + 1 + 1 + 1; omega)).trans ((Below.heap_setCell _ _ _ _ (by show b ≠ w.heap.size + 1 + 1; omega)).trans (Below.heap_setCell _ _ _ _ (by show b ≠ w.heap.size + 1 + 1; omega))))
  · show w.heap.size ≤ w.heap.size + 1 + 1; omega
  · show w.heap.size ≤ w.heap.size + 1 + 1; omega
  · show w.heap.size ≤ w.heap.size + 1 + 1 + 1; omega
  · show w.heap.size ≤ w.heap.size + 1 + 1 + 1; omega
theorem own_form {w : World} {base e n k : Nat} {v : Value} {xs : List Value} (h : w.ownsRow base e k v n xs) : ∃ p c, v = .slice p n c := by
  rcases h.2 with ⟨rfl, rfl⟩ | ⟨g, cap, cur, rfl, _⟩
  · exact ⟨_, _, rfl⟩
  · exact ⟨_, _, rfl⟩
theorem cell_two_at (w : World) (n : Nat) (hn : w.heap.size = n) (x y : Value) (t : TypeId) : ∀ j u, [x, y][j]? = some u → (w.alloc (.cells #[x, y] t)).cell? ((⟨n, 0, none⟩ : Addr).add j) = some u := by
  subst hn
  exact cell_two_new w x y t
/-- Behind the document's Drop its answer is stored. -/
theorem us_drop {w w2 : World} {most : Int} {v v1 : Value} {kk : K} {N : Nat} {ys : List Value} (h : UsS w most v kk w2) (hr : w2.ownsRow (w.heap.size + 4) 44 2 v1 N ys) :
    UsS w most v1 kk ((w2.setCell ⟨w.heap.size, 0, none⟩ (.int .i64 most)).setCell ⟨w.heap.size, 1, none⟩ v1) ∧ ((w2.setCell ⟨w.heap.size, 0, none⟩ (.int .i64 most)).setCell ⟨w.heap.size, 1, none⟩ v1).ownsRow (w.heap.size + 4) 44 2 v1 N ys :=
  ⟨h.set0.set v1, own_keep hr (fun b hb => by
    have := (hr.lt b hb).1
    exact (Below.heap_setCell _ _ _ _ (by show b ≠ w.heap.size; omega)).trans (Below.heap_setCell _ _ _ _ (by show b ≠ w.heap.size; omega)))⟩
theorem us_head {w5 : World} {base g2 N c2 : Nat} {l r : List Value} {a b : Value} (h : w5.ownsRow base 44 2 (.slice (some ⟨g2, 0, none⟩) (N + 1) c2) (N + 1) l) (hl : l = [a, b] ++ r) : w5.cell? ⟨g2, 0, none⟩ = some a ∧ w5.cell? ⟨g2, 1, none⟩ = some b ∧ base ≤ g2 ∧ N + 1 ≤ c2 := by
  subst hl
  obtain ⟨cur, hc, hn, hm, hs, ht, hg, hl⟩ := own_block h
  exact ⟨own_cell h rfl, own_cell h rfl, hg, hn⟩
/-- Behind an append to a row of one's own. -/
theorem us_app {w w3 w5 : World} {most : Int} {v1 : Value} {kk : K} {N g2 c2 : Nat} {ys zs : List Value} {o : Obj} (h : UsS w most v1 kk w3) (hr : w3.ownsRow (w.heap.size + 4) 44 2 v1 N ys) (hg : (w3.alloc o).grownBy w5 v1.ownBlock) (h5 : w5.ownsRow (w.heap.size + 4) 44 2 (.slice (some ⟨g2, 0, none⟩) (N + 1) c2) (N + 1) zs) :
    UsS w most v1 kk w5 ∧ UsS w most (.slice (some ⟨g2, 0, none⟩) (N + 1) c2) kk (w5.setCell ⟨w.heap.size, 1, none⟩ (.slice (some ⟨g2, 0, none⟩) (N + 1) c2)) ∧ (w5.setCell ⟨w.heap.size, 1, none⟩ (.slice (some ⟨g2, 0, none⟩) (N + 1) c2)).ownsRow (w.heap.size + 4) 44 2 (.slice (some ⟨g2, 0, none⟩) (N + 1) c2) (N + 1) zs := by
  have u5 : UsS w most v1 kk w5 := h.keep (G := v1.ownBlock.toList) (((Touch.refl _ _).alloc _).grown hg (fun j hj => Or.inl (by simp [hj]))) (fun j hj => (hr.lt j (by simpa using hj)).1)
  refine ⟨u5, u5.set _, own_keep h5 (fun b hb => ?_)⟩
  have := (h5.lt b hb).1
  exact Below.heap_setCell _ _ _ _ (by show b ≠ w.heap.size; omega)
def Halted (p : Prop) : Prop := p
theorem halt {p : Prop} (h : Halted p) : p := h
theorem one_cells (zs : List K) : ∀ u ∈ cellsK zs, Value.oneCell' u = true := fun u hu => by
  unfold cellsK at hu
  simp only [List.mem_flatMap, List.mem_cons, List.not_mem_nil, or_false] at hu
  obtain ⟨x, _, rfl | rfl⟩ := hu
  · rfl
  · rfl
/-- What lies where when the rest of a row is laid anew. -/
theorem us_rest {w W6 : World} {most : Int} {v2 : Value} {kk g0 : K} {zs : List K} {N g2 c2 n5 : Nat} {l : List Value} (hn : W6.heap.size = n5) (u : UsS w most v2 kk W6) (hr : W6.ownsRow (w.heap.size + 4) 44 2 (.slice (some ⟨g2, 0, none⟩) (N + 1) c2) (N + 1) l) (hl : l = [.int .u16 g0.1, .string g0.2] ++ cellsK zs) :
    ((W6.alloc (.cells #[.int .u16 g0.1, .string g0.2] 44)).alloc (.cells #[] 44)).ownsRow (w.heap.size + 4) 44 2 (.slice (some ⟨n5 + 1, 0, none⟩) 0 0) 0 [] ∧
    (∀ j x, (cellsK zs)[j]? = some x → ((W6.alloc (.cells #[.int .u16 g0.1, .string g0.2] 44)).alloc (.cells #[] 44)).cell? ((⟨g2, 2, none⟩ : Addr).add j) = some x) ∧
    UsS w most v2 kk ((W6.alloc (.cells #[.int .u16 g0.1, .string g0.2] 44)).alloc (.cells #[] 44)) ∧ ((W6.alloc (.cells #[.int .u16 g0.1, .string g0.2] 44)).alloc (.cells #[] 44)).heap[n5]? = some (.cells #[.int .u16 g0.1, .string g0.2] 44 (0, 0)) := by
  subst hn hl
  have hs := u.sz
  have t : Touch [] W6 ((W6.alloc (.cells #[.int .u16 g0.1, .string g0.2] 44)).alloc (.cells #[] 44)) := ((Touch.refl _ _).alloc _).alloc _
  have k3 : ((W6.alloc (.cells #[.int .u16 g0.1, .string g0.2] 44)).alloc (.cells #[] 44)).heap[W6.heap.size + 1]? = some (.cells #[] 44 (0, 0)) := by
    have := heap_alloc_new (W6.alloc (.cells #[.int .u16 g0.1, .string g0.2] 44)) (.cells #[] 44)
    rwa [World.size_alloc] at this
  refine ⟨⟨rfl, Or.inr ⟨_, 0, #[], rfl, by omega, k3, Nat.le_refl _, by unfold maxLen; omega, rfl, rfl⟩⟩, fun j x hj => ?_, u.keep t (fun _ e => by cases e), (Below.heap_alloc _ _ _ (by simp)).trans (heap_alloc_new _ _)⟩
  have h1 : ((W6.alloc (.cells #[.int .u16 g0.1, .string g0.2] 44)).alloc (.cells #[] 44)).cell? ⟨g2, 2 + j, none⟩ = some x := own_cell (own_touch hr t (fun _ _ e => by cases e)) (by
    rw [List.getElem?_append_right (by simp)]
    simpa using hj)
  have e1 : (⟨g2, 2, none⟩ : Addr).add j = ⟨g2, 2 + j, none⟩ := by simp [Addr.add]
  rw [e1]
  exact h1
theorem us_last {w W7 w8 : World} {most : Int} {v2 v3 : Value} {kk g0 : K} {N n5 : Nat} {l : List Value} (h5 : w.heap.size + 4 ≤ n5) (u : UsS w most v2 kk W7) (hb : W7.heap[n5]? = some (.cells #[.int .u16 g0.1, .string g0.2] 44 (0, 0))) (hg : W7.grownBy w8 (some (n5 + 1))) (hr : w8.ownsRow (w.heap.size + 4) 44 2 v3 N l) :
    UsS w most v2 kk w8 ∧ w8.heap[n5]? = some (.cells #[.int .u16 g0.1, .string g0.2] 44 (0, 0)) ∧ UsS w most v3 kk (w8.setCell ⟨w.heap.size, 1, none⟩ v3) ∧ (w8.setCell ⟨w.heap.size, 1, none⟩ v3).ownsRow (w.heap.size + 4) 44 2 v3 N l := by
  have t : Touch [n5 + 1] W7 w8 := Touch.grown (Touch.refl _ _) hg (fun j hj => by cases hj; exact Or.inl (by simp))
  have u8 := u.keep t (fun k hk => by simp only [List.mem_singleton] at hk; omega)
  refine ⟨u8, t.keep hb (by simp), u8.set _, own_keep hr (fun b hb => ?_)⟩
  have := (hr.lt b hb).1
  exact Below.heap_setCell _ _ _ _ (by show b ≠ w.heap.size; omega)
set_option maxHeartbeats 4000000 in
set_option maxRecDepth 100000 in
theorem ruse12_fit (w : World) (most : Int) (v : Value) (xs ys : List K) (kk : K) (h64 : kk.2.size ≤ 64) (hl : xs.length ≤ 70000) (hy : ys = dr xs kk ++ [kk]) (hf : (ys.length : Int) ≤ most) (h : RK w v xs) :
    Calls Try.prog 12 #[rv most v, kv kk] w fun e w' => ∃ v', e = .returned (.tuple #[rv most v', kv kz, .bool false, .int .i64 0]) ∧ RK w' v' ys ∧ Touch [] w w' := by
  obtain ⟨i3, hi, hz0, hz1, hz2⟩ := info_parts info44
  have U0 := hid (UsS.start w most v kk)
  have HD := hid (rdrop25 _ most v xs kk (by omega) (h.keep U0.out.t))
  have hdl := dr_le xs kk
  have h64' : (kk.2.size : Int) ≤ 64 := by omega
  clear h
  unfold rv kv at *
  unfold kz
  go_enter Try.func12, Try.ntmps12
  have hyc : Hid (cellsK ys = cellsK (dr xs kk) ++ [.int .u16 kk.1, .string kk.2] ∧ ys.length = (dr xs kk).length + 1) := by
    rw [hy, cellsK_app]
    exact ⟨rfl, by simp⟩
  have hfn : ((((dr xs kk).length + 1 : Nat)) : Int) ≤ most := by rw [← hyc.out.2]; exact hf
  clear hy hf
  generalize hN : (dr xs kk).length = N at *
  have HN := hid hN
  clear hN
  go_wp2_with (first
    | (go_at_call 25; refine HD.out.mono ?_; rintro e w2 ⟨v1, rfl, hr2, t2⟩; obtain ⟨a1, c1, rfl⟩ := own_form hr2; have U2 := hid (U0.out.keep t2 (fun _ e => by cases e)); have R2 := hid (own_base hr2 (Nat.le_trans (by simp) (Nat.le_refl _) : w.heap.size + 4 ≤ _)); clear t2 hr2; have q0 := U2.out.p0; have q1 := U2.out.p1; have q2 := U2.out.p2 0; have q3 := U2.out.p2 1; have q4 := U2.out.k0; have q5 := U2.out.k1; have hs2 := U2.out.sz)
    | (at_builtin; refine wpList_append_lies _ rfl _ _ 29 rfl (w.heap.size + 4) 44 i3 (.agg #[.int .u16 0, .string ⟨#[]⟩]) 2 24 Try.underlying29 hi hz0 hz1 hz2 rfl (by decide) (.slice a1 N c1) N (cellsK (dr xs kk)) rfl ((us_drop U2.out R2.out).2.alloc _) ⟨w2.heap.size, 0, none⟩ 1 1 [.int .u16 kk.1, .string kk.2] rfl rfl (cell_two_at _ _ (by simp [World.setCell]) _ _ _) (by simp [Value.oneCell']) (by decide) (by unfold maxLen; omega) (by omega) (by simp [World.setCell]; omega) _ rfl ?_; intro g2 c2 w5 hown5 hgrow hat hlt5; have U5 := hid (us_app (us_drop U2.out R2.out).1 (us_drop U2.out R2.out).2 hgrow hown5); clear hown5 hgrow hat q0 q1 q2 q3 q4 q5; have q0 := U5.out.1.p0; have q1 := U5.out.1.p1; have q3 := U5.out.1.p2 1; obtain ⟨e0, e1, e2, e3⟩ := U5.out.1.r0; obtain ⟨d0, d1, d2, d3⟩ := U5.out.1.g0))
  refine bodyPost_ret (v := .tuple #[.agg #[.int .i64 most, .slice (some ⟨g2, 0, none⟩) (N + 1) c2], .agg #[.int .u16 0, .string ⟨#[]⟩], .bool false, .int .i64 0]) (by simp [results, Try.results12, go_sem, e0, e1, d0, d1]) rfl ⟨.slice (some ⟨g2, 0, none⟩) (N + 1) c2, rfl, ?_⟩
  exact us_end U5.out.2.1.t U5.out.2.2 hyc.out.2 hyc.out.1 most kz
set_option maxHeartbeats 4000000 in
set_option maxRecDepth 100000 in
theorem ruse12_pos (w : World) (most : Int) (v : Value) (xs ys : List K) (kk : K) (h64 : kk.2.size ≤ 64) (hl : xs.length ≤ 70000) (hy : ys = dr xs kk ++ [kk]) (hf : most < (ys.length : Int)) (g0 : K) (zs : List K) (hg : ys = g0 :: zs) (hpos : 0 < zs.length) (h : RK w v xs) :
    Calls Try.prog 12 #[rv most v, kv kk] w fun e w' => ∃ v', e = .returned (.tuple #[rv most v', kv g0, .bool true, .int .i64 0]) ∧ RK w' v' zs ∧ Touch [] w w' := by
  obtain ⟨i3, hi, hz0, hz1, hz2⟩ := info_parts info44
  have U0 := hid (UsS.start w most v kk)
  have HD := hid (rdrop25 _ most v xs kk (by omega) (h.keep U0.out.t))
  have hdl := dr_le xs kk
  have h64' : (kk.2.size : Int) ≤ 64 := by omega
  clear h
  unfold rv kv at *
  go_enter Try.func12, Try.ntmps12
  have hyc : Hid (cellsK ys = cellsK (dr xs kk) ++ [.int .u16 kk.1, .string kk.2] ∧ ys.length = (dr xs kk).length + 1) := by
    rw [hy, cellsK_app]
    exact ⟨rfl, by simp⟩
  have hfn : most < ((((dr xs kk).length + 1 : Nat)) : Int) := by rw [← hyc.out.2]; exact hf
  have hzn : (dr xs kk).length = zs.length := by have := hyc.out.2; rw [hg] at this; simpa using this.symm
  have hzc : Hid (cellsK (dr xs kk) ++ [.int .u16 kk.1, .string kk.2] = [.int .u16 g0.1, .string g0.2] ++ cellsK zs) := by
    show _ = _
    rw [← hyc.out.1, hg]; rfl
  clear hy hf hg
  have hpos' : 0 < (dr xs kk).length := by omega
  generalize hN : (dr xs kk).length = N at *
  have HN := hid hN
  have HZ := hid hzn
  clear hN hzn hpos
  go_wp2_with (first
    | (go_at_call 25; refine HD.out.mono ?_; rintro e w2 ⟨v1, rfl, hr2, t2⟩; obtain ⟨a1, c1, rfl⟩ := own_form hr2; have U2 := hid (U0.out.keep t2 (fun _ e => by cases e)); have R2 := hid (own_base hr2 (Nat.le_trans (by simp) (Nat.le_refl _) : w.heap.size + 4 ≤ _)); clear t2 hr2; have q0 := U2.out.p0; have q1 := U2.out.p1; have q2 := U2.out.p2 0; have q3 := U2.out.p2 1; have q4 := U2.out.k0; have q5 := U2.out.k1; have hs2 := U2.out.sz)
    | (at_builtin; refine wpList_append_lies _ rfl _ _ 29 rfl (w.heap.size + 4) 44 i3 (.agg #[.int .u16 0, .string ⟨#[]⟩]) 2 24 Try.underlying29 hi hz0 hz1 hz2 rfl (by decide) (.slice a1 N c1) N (cellsK (dr xs kk)) rfl ((us_drop U2.out R2.out).2.alloc _) ⟨w2.heap.size, 0, none⟩ 1 1 [.int .u16 kk.1, .string kk.2] rfl rfl (cell_two_at _ _ (by simp [World.setCell]) _ _ _) (by simp [Value.oneCell']) (by decide) (by unfold maxLen; omega) (by omega) (by simp [World.setCell]; omega) _ rfl ?_; intro g2 c2 w5 hown5 hgrow hat hlt5; have U5 := hid (us_app (us_drop U2.out R2.out).1 (us_drop U2.out R2.out).2 hgrow hown5); obtain ⟨y0, y1, hg2, hcap⟩ := us_head hown5 hzc.out; have hne : g2 ≠ w.heap.size := (by omega); have hne' := Ne.symm hne; have hs5 := U5.out.1.sz; have hs6 : w.heap.size < w5.heap.size := (by omega); have hc1 : ¬ c2 = 1 := (by omega); have hc1' : ¬ 1 = c2 := (by omega); clear hown5 hgrow hat q0 q1 q2 q3 q4 q5 R2 U2; have q0 := U5.out.1.p0; have q1 := U5.out.1.p1; have q3 := U5.out.1.p2 1; obtain ⟨e0, e1, e2, e3⟩ := U5.out.1.r0; clear U0 HD; have W7 := hid (us_rest (g0 := g0) (zs := zs) (n5 := w5.heap.size) (by simp [World.setCell]) U5.out.2.1 U5.out.2.2 hzc.out); clear e0 e1 e2 e3; have R5 := hid hs5)
    | (at_builtin; refine halt ?_))
  unfold Halted
  refine wpList_append_lies _ rfl _ _ 29 rfl (w.heap.size + 4) 44 i3 (.agg #[.int .u16 0, .string ⟨#[]⟩]) 2 24 Try.underlying29 hi hz0 hz1 hz2 rfl (by decide) (.slice (some ⟨w5.heap.size + 1, 0, none⟩) 0 0) 0 [] rfl W7.out.1 ⟨g2, 2, none⟩ N (c2 - 1) (cellsK zs) rfl (by rw [cellsK_len, ← HZ.out]) W7.out.2.1 (one_cells zs) hpos' (by unfold maxLen; omega) (by omega) (by simp [World.setCell]; omega) _ rfl ?_
  intro g3 c3 w8 hown8 hgrow8 hat8 hlt8
  rw [Nat.zero_add, List.nil_append] at hown8
  rw [Nat.zero_add]
  have U8 := hid (us_last (g0 := g0) R5.out W7.out.2.2.1 W7.out.2.2.2 hgrow8 hown8)
  clear hown8 hgrow8 hat8 q0 q1 q3 y0 y1
  have hb5 := U8.out.2.1
  have q0 := U8.out.1.p0
  have q1 := U8.out.1.p1
  have q3 := U8.out.1.p2 1
  have q2 := U8.out.1.p2 0
  have x0 : w8.cell? ⟨w5.heap.size, 0, none⟩ = some (.int .u16 g0.1) := by simp [World.cell?, hb5]
  have x1 : w8.cell? ⟨w5.heap.size, 1, none⟩ = some (.string g0.2) := by simp [World.cell?, hb5]
  obtain ⟨e0, e1, e2, e3⟩ := U8.out.1.r0
  obtain ⟨d0, d1, d2, d3⟩ := U8.out.1.g0
  clear hb5
  have hs8 := U8.out.1.sz
  clear W7 U5
  have h5n : w5.heap.size ≠ w.heap.size := by omega
  have h5n' := Ne.symm h5n
  go_wp2
  obtain ⟨W9, hW9⟩ : ∃ W9, W9 = w8.setCell ⟨w.heap.size, 1, none⟩ (.slice (some ⟨g3, 0, none⟩) N c3) := ⟨_, rfl⟩
  have U9 := U8.out.2.2
  rw [← hW9] at U9
  rw [← hW9]
  have b9 : W9.heap[w5.heap.size]? = some (.cells #[.int .u16 g0.1, .string g0.2] 44 (0, 0)) := by
    rw [hW9]
    exact (Below.heap_setCell _ _ _ _ h5n).trans U8.out.2.1
  clear hW9 q0 q1 q2 q3 x0 x1 e0 e1 e2 e3 d0 d1 d2 d3 U8
  have x0 : W9.cell? ⟨w5.heap.size, 0, none⟩ = some (.int .u16 g0.1) := by simp [World.cell?, b9]
  have x1 : W9.cell? ⟨w5.heap.size, 1, none⟩ = some (.string g0.2) := by simp [World.cell?, b9]
  have q0 := U9.1.p0
  have q1 := U9.1.p1
  obtain ⟨e0, e1, e2, e3⟩ := U9.1.r0
  obtain ⟨d0, d1, d2, d3⟩ := U9.1.g0
  have i1 : w5.heap.size ≠ w.heap.size + 1 + 1 := by omega
  have i2 : w5.heap.size ≠ w.heap.size + 1 + 1 + 1 := by omega
  have HU := hid U9
  clear U9 b9
  go_region
  all_goals
    go_wp2
    refine bodyPost_ret (v := .tuple #[.agg #[.int .i64 most, .slice (some ⟨g3, 0, none⟩) N c3], .agg #[.int .u16 g0.1, .string g0.2], .bool true, .int .i64 0]) (by simp [results, Try.results12, go_sem, e0, e1, d0, d1]) rfl ⟨.slice (some ⟨g3, 0, none⟩) N c3, rfl, ?_⟩
    have hend := us_end HU.out.1.t HU.out.2 HZ.out.symm rfl most g0
    exact ⟨own_keep hend.1 (fun _ _ => rfl), ⟨hend.2.os, hend.2.tape, hend.2.output, hend.2.size, hend.2.block⟩⟩
set_option maxHeartbeats 4000000 in
set_option maxRecDepth 100000 in
theorem ruse12_zero (w : World) (most : Int) (v : Value) (xs ys : List K) (kk : K) (h64 : kk.2.size ≤ 64) (hl : xs.length ≤ 70000) (hy : ys = dr xs kk ++ [kk]) (hf : most < (ys.length : Int)) (g0 : K) (hg : ys = [g0]) (h : RK w v xs) :
    Calls Try.prog 12 #[rv most v, kv kk] w fun e w' => ∃ v', e = .returned (.tuple #[rv most v', kv g0, .bool true, .int .i64 0]) ∧ RK w' v' [] ∧ Touch [] w w' := by
  obtain ⟨i3, hi, hz0, hz1, hz2⟩ := info_parts info44
  have U0 := hid (UsS.start w most v kk)
  have HD := hid (rdrop25 _ most v xs kk (by omega) (h.keep U0.out.t))
  have hdl := dr_le xs kk
  have h64' : (kk.2.size : Int) ≤ 64 := by omega
  clear h
  unfold rv kv at *
  go_enter Try.func12, Try.ntmps12
  have hyc : Hid (cellsK ys = cellsK (dr xs kk) ++ [.int .u16 kk.1, .string kk.2] ∧ ys.length = (dr xs kk).length + 1) := by
    rw [hy, cellsK_app]
    exact ⟨rfl, by simp⟩
  have hfn : most < ((((dr xs kk).length + 1 : Nat)) : Int) := by rw [← hyc.out.2]; exact hf
  have hzn : (dr xs kk).length = 0 := by have := hyc.out.2; rw [hg] at this; simpa using this
  have hzc : Hid (cellsK (dr xs kk) ++ [.int .u16 kk.1, .string kk.2] = [.int .u16 g0.1, .string g0.2] ++ cellsK []) := by
    show _ = _
    rw [← hyc.out.1, hg]; rfl
  clear hy hf hg
  generalize hN : (dr xs kk).length = N at *
  have HN := hid hN
  have HZ := hid hzn
  clear hN hzn
  go_wp2_with (first
    | (go_at_call 25; refine HD.out.mono ?_; rintro e w2 ⟨v1, rfl, hr2, t2⟩; obtain ⟨a1, c1, rfl⟩ := own_form hr2; have U2 := hid (U0.out.keep t2 (fun _ e => by cases e)); have R2 := hid (own_base hr2 (Nat.le_trans (by simp) (Nat.le_refl _) : w.heap.size + 4 ≤ _)); clear t2 hr2; have q0 := U2.out.p0; have q1 := U2.out.p1; have q2 := U2.out.p2 0; have q3 := U2.out.p2 1; have q4 := U2.out.k0; have q5 := U2.out.k1; have hs2 := U2.out.sz)
    | (at_builtin; refine wpList_append_lies _ rfl _ _ 29 rfl (w.heap.size + 4) 44 i3 (.agg #[.int .u16 0, .string ⟨#[]⟩]) 2 24 Try.underlying29 hi hz0 hz1 hz2 rfl (by decide) (.slice a1 N c1) N (cellsK (dr xs kk)) rfl ((us_drop U2.out R2.out).2.alloc _) ⟨w2.heap.size, 0, none⟩ 1 1 [.int .u16 kk.1, .string kk.2] rfl rfl (cell_two_at _ _ (by simp [World.setCell]) _ _ _) (by simp [Value.oneCell']) (by decide) (by unfold maxLen; omega) (by omega) (by simp [World.setCell]; omega) _ rfl ?_; intro g2 c2 w5 hown5 hgrow hat hlt5; have U5 := hid (us_app (us_drop U2.out R2.out).1 (us_drop U2.out R2.out).2 hgrow hown5); obtain ⟨y0, y1, hg2, hcap⟩ := us_head hown5 hzc.out; have hne : g2 ≠ w.heap.size := (by omega); have hne' := Ne.symm hne; have hs5 := U5.out.1.sz; have hs6 : w.heap.size < w5.heap.size := (by omega); clear hown5 hgrow hat q0 q1 q2 q3 q4 q5 R2 U2; have q0 := U5.out.1.p0; have q1 := U5.out.1.p1; have q3 := U5.out.1.p2 1; obtain ⟨e0, e1, e2, e3⟩ := U5.out.1.r0; clear U0 HD; have W7 := hid (us_rest (g0 := g0) (zs := []) (n5 := w5.heap.size) (by simp [World.setCell]) U5.out.2.1 U5.out.2.2 hzc.out); clear e0 e1 e2 e3; have R5 := hid hs5)
    | (at_builtin; refine halt ?_))
  all_goals
    unfold Halted
    clear HN
    subst_vars
    refine wpList_append_own _ rfl _ _ 29 rfl (w.heap.size + 4) 44 i3 (.agg #[.int .u16 0, .string ⟨#[]⟩]) 2 24 Try.underlying29 hi hz0 hz1 hz2 rfl (by decide) (.slice (some ⟨w5.heap.size + 1, 0, none⟩) 0 0) 0 [] rfl W7.out.1 _ 0 _ [] rfl rfl (fun j u h => by cases h) (fun u h => by cases h) (by unfold maxLen; omega) (by omega) (by simp [World.setCell]; omega) ?_
    intro v3 w8 hown8 hgrow8 hat8
    rw [Nat.zero_add, List.nil_append] at hown8
    obtain ⟨a3, c3, rfl⟩ := own_form hown8
    have U8 := hid (us_last (g0 := g0) R5.out W7.out.2.2.1 W7.out.2.2.2 hgrow8 hown8)
    clear hown8 hgrow8 hat8 hyc hzc q0 q1 q3 y0 y1
    have hb5 := U8.out.2.1
    have q0 := U8.out.1.p0
    have q1 := U8.out.1.p1
    have q3 := U8.out.1.p2 1
    have q2 := U8.out.1.p2 0
    have x0 : w8.cell? ⟨w5.heap.size, 0, none⟩ = some (.int .u16 g0.1) := by simp [World.cell?, hb5]
    have x1 : w8.cell? ⟨w5.heap.size, 1, none⟩ = some (.string g0.2) := by simp [World.cell?, hb5]
    obtain ⟨e0, e1, e2, e3⟩ := U8.out.1.r0
    obtain ⟨d0, d1, d2, d3⟩ := U8.out.1.g0
    clear hb5
    have hs8 := U8.out.1.sz
    clear W7 U5
    have h5n : w5.heap.size ≠ w.heap.size := by omega
    have h5n' := Ne.symm h5n
    go_wp2
    obtain ⟨W9, hW9⟩ : ∃ W9, W9 = w8.setCell ⟨w.heap.size, 1, none⟩ (.slice a3 0 c3) := ⟨_, rfl⟩
    have U9 := U8.out.2.2
    rw [← hW9] at U9
    rw [← hW9]
    have b9 : W9.heap[w5.heap.size]? = some (.cells #[.int .u16 g0.1, .string g0.2] 44 (0, 0)) := by
      rw [hW9]
      exact (Below.heap_setCell _ _ _ _ h5n).trans U8.out.2.1
    clear hW9 q0 q1 q2 q3 x0 x1 e0 e1 e2 e3 d0 d1 d2 d3 U8
    have x0 : W9.cell? ⟨w5.heap.size, 0, none⟩ = some (.int .u16 g0.1) := by simp [World.cell?, b9]
    have x1 : W9.cell? ⟨w5.heap.size, 1, none⟩ = some (.string g0.2) := by simp [World.cell?, b9]
    have q0 := U9.1.p0
    have q1 := U9.1.p1
    obtain ⟨e0, e1, e2, e3⟩ := U9.1.r0
    obtain ⟨d0, d1, d2, d3⟩ := U9.1.g0
    have i1 : w5.heap.size ≠ w.heap.size + 1 + 1 := by omega
    have i2 : w5.heap.size ≠ w.heap.size + 1 + 1 + 1 := by omega
    have HU := hid U9
    clear U9 b9
    go_region
    all_goals
      go_wp2
      refine bodyPost_ret (v := .tuple #[.agg #[.int .i64 most, .slice a3 0 c3], .agg #[.int .u16 g0.1, .string g0.2], .bool true, .int .i64 0]) (by simp [results, Try.results12, go_sem, e0, e1, d0, d1]) rfl ⟨.slice a3 0 c3, rfl, ?_⟩
      have hend := us_end HU.out.1.t HU.out.2 (show ([] : List K).length = 0 from rfl) rfl most g0
      exact ⟨own_keep hend.1 (fun _ _ => rfl), ⟨hend.2.os, hend.2.tape, hend.2.output, hend.2.size, hend.2.block⟩⟩
end Go.Proofs.Ytjcdloijodfpgaa
