/- The contracts of place and takeAway in plain words, and of clear, End, Stand and Sit; no conditions but those that each states. -/
import Derived.Test.YtlmmljmhfghlnaaVpb
namespace Go.Proofs.Ytlmmljmhfghlnaa
open Go.RowKit Go.Maps Go.ChangeMaps
set_option linter.unusedVariables false
set_option linter.unusedSimpArgs false
section
variable {w : World} {s N : Nat} {F : List Nat} {L : List Se} {G : List Int}
theorem del_out {CH : List Chr} (nc : (CH.map (fun p => p.2.1)).Nodup) (nd : (CH.map Prod.fst).Nodup) {q : Nat} {x : Se} (hq : (q, x) ∈ CH) : (delC q CH).map Prod.snd = outL 0 x.1 (CH.map Prod.snd) := by
  unfold delC outL
  rw [List.filter_map]
  congr 1
  refine List.filter_congr (fun p hp => ?_)
  simp only [Function.comp, bn]
  by_cases e : p.1 = q
  · have := ch_uniq nd hp hq e
    subst this
    simp
  · have : ¬ p.2.1 = x.1 := fun e2 => e (caller_uniq nc hp hq e2)
    simp [e, this]
theorem takeQ (h : Sq w s F L G N) {x : Se} (hx : x ∈ L) (hN : N ≤ 10000000000000) : Calls Try.prog 34 #[PT s, sv x] w fun e w' => e = .returned (.tuple #[]) ∧ SqE w w' s F (outL 0 x.1 L) G N := by
  obtain ⟨mc, mr, mk, nr, CH, rfl, rfl, h1, h2, h3⟩ := h
  obtain ⟨p, hp, rfl⟩ := List.mem_map.1 hx
  have nc : (CH.map (fun p => p.2.1)).Nodup := by rw [← callers_eq]; exact h2.nc
  refine (take_ h1 p.1 p.2 hp nc (h2.ok _ hx).2 (by unfold maxLen; omega)).mono ?_
  rintro e w' ⟨rfl, n, n1, n2, n3⟩
  refine ⟨rfl, _, ⟨mc, mr, mk, n, delC p.1 CH, rfl, (del_out nc h1.nb hp).symm, n2, h2.out 0 _, by omega⟩, n3, fun z hz => Or.inl ?_⟩
  rcases mem_fpS.1 hz with e | e | e | e | e
  · exact mem_fpS.2 (Or.inl e)
  · exact mem_fpS.2 (Or.inr (Or.inl e))
  · exact mem_fpS.2 (Or.inr (Or.inr (Or.inl e)))
  · exact mem_fpS.2 (Or.inr (Or.inr (Or.inr (Or.inl e))))
  · refine mem_fpS.2 (Or.inr (Or.inr (Or.inr (Or.inr ?_))))
    obtain ⟨r, hr, rfl⟩ := List.mem_map.1 e
    exact List.mem_map.2 ⟨r, (List.mem_filter.1 hr).1, rfl⟩
theorem placeQ (h : Sq w s F L G N) {x : Se} (hx : Wf x) (hm : may x = true) (hn : ∀ y ∈ L, y.1 ≠ x.1) (hN : N ≤ 10000000000000) : Calls Try.prog 35 #[PT s, sv x] w fun e w' => e = .returned (.tuple #[]) ∧ SqE w w' s F (L ++ [x]) G (N + 1) := by
  obtain ⟨mc, mr, mk, nr, CH, rfl, rfl, h1, h2, h3⟩ := h
  have hl := h2.ll
  rw [List.length_map] at hl
  refine (place_ h1 x hx (fun p hp => hn p.2 (List.mem_map.2 ⟨p, hp, rfl⟩)) (by unfold maxLen; omega) (by unfold maxLen; omega)).mono ?_
  rintro e w' ⟨rfl, b, d, q, n, n1, n2, n3, n4, n5, n6⟩
  refine ⟨rfl, _, ⟨some b, some d, mk, n, CH ++ [(q, x)], rfl, by simp, n2, h2.snoc hx hm hn, by omega⟩, n3, fun z hz => ?_⟩
  rcases mem_fpS.1 hz with e | e | e | e | e
  · exact Or.inl (mem_fpS.2 (Or.inl e))
  · rcases n5 with e2 | e2
    · exact Or.inl (mem_fpS.2 (Or.inr (Or.inl (by rw [e2]; exact e))))
    · cases e; exact Or.inr e2
  · rcases n6 with e2 | e2
    · exact Or.inl (mem_fpS.2 (Or.inr (Or.inr (Or.inl (by rw [e2]; exact e)))))
    · cases e; exact Or.inr e2
  · exact Or.inl (mem_fpS.2 (Or.inr (Or.inr (Or.inr (Or.inl e)))))
  · rw [List.map_append] at e
    rcases List.mem_append.1 e with e | e
    · exact Or.inl (mem_fpS.2 (Or.inr (Or.inr (Or.inr (Or.inr e)))))
    · simp only [List.map_cons, List.map_nil, List.mem_singleton] at e
      exact Or.inr (by omega)
theorem Sq.chl (h : Sq w s F L G N) (hN : N ≤ 4500000000000) : ∃ mc mr mk nr CH, F = fpS s mc mr mk CH ∧ L = CH.map Prod.snd ∧ Sm w s mc mr mk nr CH G ∧ CH.length ≤ 5000000000000 := by
  obtain ⟨mc, mr, mk, nr, CH, rfl, rfl, h1, h2, h3⟩ := h
  have hl := h2.ll
  rw [List.length_map] at hl
  exact ⟨mc, mr, mk, nr, CH, rfl, rfl, h1, by omega⟩
theorem seatsQ (h : Sq w s F L G N) {k : Nat} (hk : k < 3) {n : Int} (hn : W64 n) (hN : N ≤ 4500000000000) : Calls Try.prog 30 #[PT s, .agg #[.int .i64 (k : Int), .int .i64 n]] w fun e w' => SlE e w w' (inK k n L) := by
  obtain ⟨mc, mr, mk, nr, CH, rfl, rfl, h1, h2⟩ := h.chl hN
  exact seats_ h1 hk hn h2
theorem whereQ (h : Sq w s F L G N) {c : Int} (hc : W64 c) : Calls Try.prog 8 #[PT s, .int .i64 c] w fun e w' => e = .returned (.tuple #[sv ((whr L c).getD zs), .bool (whr L c).isSome]) ∧ Touch [] w w' := by
  obtain ⟨mc, mr, mk, nr, CH, rfl, rfl, h1, h2, h3⟩ := h
  exact where_ h1 hc
theorem cancQ (h : Sq w s F L G N) {t : Int} (ht : W64 t) : Calls Try.prog 14 #[PT s, .int .i64 t] w fun e w' => e = .returned (.bool (decide (t ∈ G))) ∧ Touch [] w w' := by
  obtain ⟨mc, mr, mk, nr, CH, rfl, rfl, h1, h2, h3⟩ := h
  exact canc_ h1 ht
/-- Seats are told, and are gone. -/
def ClE (e : Ending) (w w' : World) (s : Nat) (F : List Nat) (L : List Se) (G : List Int) (N : Nat) (ys : List Se) : Prop := ∃ a c, e = .returned (.slice a ys.length c) ∧ w'.ownsRow w.heap.size 33 3 (.slice a ys.length c) ys.length (ys.flatMap sc) ∧ SqE w w' s F L G N
theorem own_other {w w' : World} {B t k n : Nat} {v : Value} {xs : List Value} {F : List Nat} (h : w.ownsRow B t k v n xs) (T : Touch F w w') (hF : ∀ q, q ∈ F → Own1 w q) (h1 : t ≠ 60) (h2 : t ≠ 69) : w'.ownsRow B t k v n xs := own_touch h T (fun b hb e => by
  obtain ⟨cs, hc⟩ := own_kind h hb
  exact (hF b e).ne hc h1 h2 rfl)
set_option maxHeartbeats 4000000 in
set_option maxRecDepth 100000 in
theorem clear_ (h : Sq w s F L G N) {k : Nat} (hk1 : 1 ≤ k) (hk : k < 3) {n : Int} (hn : W64 n) (hN : N ≤ 4500000000000) : Calls Try.prog 36 #[PT s, .agg #[.int .i64 (k : Int), .int .i64 n]] w fun e w' => ClE e w w' s F (outL k n L) G N (inL k n L) := by
  obtain ⟨V, hV⟩ : ∃ V, V = w.alloc (bxN k n) := ⟨_, rfl⟩
  have tv : Touch [] w V := by rw [hV]; exact (Touch.refl _ _).alloc _
  have hvb : V.heap[w.heap.size]? = some (.cells #[.int .i64 (k : Int), .int .i64 n] 73 (0, 0)) := by rw [hV]; exact heap_alloc_new w _
  have b0 := cell_at (j := 0) (v := .int .i64 (k : Int)) hvb rfl
  have b1 := cell_at (j := 1) (v := .int .i64 n) hvb rfl
  have HS := hid (seatsQ (h.keep0 tv) hk hn hN)
  have eK : inK k n L = inL k n L := by
    match k, hk1, hk with
    | 1, _, _ => rfl
    | 2, _, _ => rfl
  rw [eK] at HS
  have HQ := hid h
  have HTV := hid tv
  have HNN := hid hN
  obtain ⟨ys, hys⟩ : ∃ ys, ys = inL k n L := ⟨_, rfl⟩
  have HLE : Hid (ys.length ≤ 4500000000000) := hid (by rw [hys]; exact Nat.le_trans (List.length_filter_le _ _) (Nat.le_trans h.iv.ll hN))
  have HY : Hid (outs L ys = outL k n L) := hid (by rw [hys]; exact outs_in h.iv.nc k n)
  have HMEM : Hid (∀ i y, ys[i]? = some y → y ∈ outs L (ys.take i)) := hid (fun i y hy => by
    rw [outs_eq, List.mem_filter]
    have hy1 : y ∈ L := by
      have := List.mem_of_getElem? hy
      rw [hys] at this
      exact (List.mem_filter.1 this).1
    refine ⟨hy1, ?_⟩
    simp only [Bool.not_eq_true', decide_eq_false_iff_not]
    intro e
    have hnd : (ys.map Prod.fst).Nodup := by rw [hys]; exact h.iv.nc.sublist (List.filter_sublist.map _)
    have hi := (List.getElem?_eq_some_iff.1 hy).1
    obtain ⟨z, hz, e2⟩ := List.mem_map.1 e
    obtain ⟨j, hj⟩ := List.getElem?_of_mem hz
    have hj1 : j < i := by
      have := (List.getElem?_eq_some_iff.1 hj).1
      rw [List.length_take] at this
      omega
    rw [List.getElem?_take, if_pos hj1] at hj
    have g1 : (ys.map Prod.fst)[i]? = some y.1 := by rw [List.getElem?_map, hy]; rfl
    have g2 : (ys.map Prod.fst)[j]? = some y.1 := by rw [List.getElem?_map, hj, ← e2]; rfl
    have := (List.getElem?_inj (by simpa using hi) hnd).1 (g1.trans g2.symm)
    omega)
  rw [← hys] at HS ⊢
  rw [← HY.out]
  clear h tv hvb hk1 hk eK hn hN hys HY
  unfold bxN at hV
  unfold PT at *
  go_enter Try.func36, Try.ntmps36
  go_upto_region 1 with fail
  rw [← hV]
  clear hV
  go_upto_region 2 with (go_at_call 30; refine HS.out.mono ?_; rintro e w2 ⟨a2, c2, rfl, r2, t2⟩; have RR := hid (And.intro r2 t2); clear r2 t2 b0 b1)
  have H0 : Hid (∃ F', Sq w2 s F' (outs L (ys.take 0)) G N ∧ Touch F w w2 ∧ Nf w F F' ∧ w2.ownsRow w.heap.size 33 3 (.slice a2 ys.length c2) ys.length (ys.flatMap sc)) := hid ⟨F, HQ.out.keep0 (HTV.out.trans' RR.out.2), (HTV.out.trans' RR.out.2).mono (fun _ e => by cases e), Nf.refl _ _, own_base RR.out.1 HTV.out.size⟩
  obtain ⟨m, hm⟩ : ∃ m, m = ys.length := ⟨_, rfl⟩
  have HM := hid hm
  rw [← hm] at H0 ⊢
  clear RR HS hm
  go_wp2
  go_loopw [13] (fun s13 wr => ∃ i : Nat, s13 = .int .i64 (i : Int) ∧ i ≤ m ∧ Hid (∃ F', Sq wr s F' (outs L (ys.take i)) G N ∧ Touch F w wr ∧ Nf w F F' ∧ wr.ownsRow w.heap.size 33 3 (.slice a2 m c2) m (ys.flatMap sc))) (fun i _ => m - (intOf i).toNat)
  case atStart => exact ⟨0, rfl, Nat.zero_le _, H0⟩
  case round =>
    clear H0
    obtain ⟨i, rfl, hi, HR⟩ := hrel
    by_cases hlt : i < m
    · have zi : (i : Int) < (m : Int) := by omega
      have zL : (m : Int) < 9223372036854775807 := by have := HLE.out; have := HM.out; omega
      obtain ⟨y, hy⟩ : ∃ y, ys[i]? = some y := ⟨_, List.getElem?_eq_getElem (by have := HM.out; omega)⟩
      obtain ⟨V1, hV1⟩ : ∃ V1, V1 = wr.alloc (.cells #[.int .i64 y.1, .int .i64 y.2.1, .int .i64 y.2.2] 33) := ⟨_, rfl⟩
      obtain ⟨g, hg, e0, e1, e2⟩ : ∃ g, a2 = some ⟨g, 0, none⟩ ∧ wr.cell? ⟨g, i * 3, none⟩ = some (.int .i64 y.1) ∧ wr.cell? ⟨g, i * 3 + 1, none⟩ = some (.int .i64 y.2.1) ∧ wr.cell? ⟨g, i * 3 + 2, none⟩ = some (.int .i64 y.2.2) := by
        obtain ⟨F', q1, q2, q3, q4⟩ := HR.out
        obtain ⟨g, c', e, _, _⟩ := own_some q4 (by omega)
        simp only [Value.slice.injEq, true_and] at e
        obtain ⟨rfl, rfl⟩ := e
        exact ⟨g, rfl, seat_cells q4 hy⟩
      subst hg
      have tv1 : Touch [] wr V1 := by rw [hV1]; exact (Touch.refl _ _).alloc _
      have hb1 : V1.heap[wr.heap.size]? = some (.cells #[.int .i64 y.1, .int .i64 y.2.1, .int .i64 y.2.2] 33 (0, 0)) := by rw [hV1]; exact heap_alloc_new wr _
      have f0 := cell_at (j := 0) (v := .int .i64 y.1) hb1 rfl
      have f1 := cell_at (j := 1) (v := .int .i64 y.2.1) hb1 rfl
      have f2 := cell_at (j := 2) (v := .int .i64 y.2.2) hb1 rfl
      have HCL : Hid (Calls Try.prog 34 #[PT s, sv y] V1 fun e w' => e = .returned (.tuple #[]) ∧ ∃ F', Sq w' s F' (outs L (ys.take (i + 1))) G N ∧ Touch F w w' ∧ Nf w F F' ∧ w'.ownsRow w.heap.size 33 3 (.slice (some ⟨g, 0, none⟩) m c2) m (ys.flatMap sc)) := hid (by
        obtain ⟨F', q1, q2, q3, q4⟩ := HR.out
        have q1' := q1.keep0 tv1
        refine (takeQ q1' (HMEM.out i y hy) (by have := HNN.out; omega)).mono ?_
        rintro e w' ⟨rfl, F2, z1, z2, z3⟩
        rw [take_snoc hy, outs_snoc]
        have z2' : Touch F' wr w' := (tv1.mono (fun _ e => by cases e)).trans' z2
        refine ⟨rfl, F2, z1, q2.trans z2' (fun z hz => (q3 z hz).imp id (fun e => e)), q3.trans (fun z hz => (z3 z hz).imp id (fun e => Nat.le_trans tv1.size e)) q2.size, own_other q4 z2' q1.own (by decide) (by decide)⟩)
      unfold PT sv at HCL
      clear hy HR tv1 hb1
      go_upto_region 5 with fail
      rw [← hV1]
      clear hV1 e0 e1 e2
      go_wp2_with (go_at_call 34; refine HCL.out.mono ?_; rintro e w3 ⟨rfl, q3⟩; have HX := hid q3; clear q3)
      go_roundw
      case rel => exact ⟨i + 1, by go_num, by omega, HX⟩
      case measure => simp [intOf]; omega
    · have HZ : Hid (ClE (.returned (.slice a2 m c2)) w wr s F (outs L ys) G N ys) := hid (by
        obtain ⟨F', q1, q2, q3, q4⟩ := HR.out
        have e1 := HM.out
        obtain rfl : i = m := by omega
        rw [e1] at q1 q4 ⊢
        rw [List.take_length] at q1
        exact ⟨a2, c2, rfl, q4, F', q1, q2, q3⟩)
      have zi : (m : Int) ≤ (i : Int) := by omega
      clear HR hlt hi
      go_wp2
      go_ret
      exact HZ.out
theorem end_ (h : Sq w s F L G N) {n : Int} (hn : W64 n) (hN : N ≤ 4500000000000) : Calls Try.prog 23 #[PT s, .int .i64 n] w fun e w' => ClE e w w' s F (outL 1 n L) G N (inL 1 n L) := by
  have HC := hid (clear_ h (k := 1) (by omega) (by omega) hn hN)
  clear h
  unfold PT at *
  go_enter Try.func23, Try.ntmps23
  go_wp2_with (go_at_call 36; refine HC.out.mono ?_; rintro e w2 ⟨a2, c2, rfl, r2, t2⟩; have RR := hid (And.intro r2 t2); clear r2 t2)
  go_ret
  exact ⟨a2, c2, rfl, RR.out.1, RR.out.2⟩
end
end Go.Proofs.Ytlmmljmhfghlnaa
