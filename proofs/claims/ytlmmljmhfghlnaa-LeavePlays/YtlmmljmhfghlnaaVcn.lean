/- The contract of Clone; no conditions but those that it states. -/
import Derived.Test.YtlmmljmhfghlnaaVem
import Derived.Shelf.SlMaps.Clone
namespace Go.Proofs.Ytlmmljmhfghlnaa
open Go.RowKit Go.Maps Go.ChangeMaps
set_option linter.unusedVariables false
set_option linter.unusedSimpArgs false
set_option maxRecDepth 100000 in
theorem mclone_ (w : World) (mk : Option Nat) (G : List Int) (h : (mk = none ∧ G = []) ∨ ∃ b, mk = some b ∧ MapK KI w b G.length (kmap G)) : Calls Try.prog 37 #[.map mk] w fun e w' => ∃ m2, e = .returned (.map m2) ∧ ((m2 = none ∧ G = []) ∨ ∃ b, m2 = some b ∧ MapK KI w' b G.length (kmap G)) ∧ (∀ b, m2 = some b → w.heap.size ≤ b) ∧ Touch [] w w' := by
  have hq := fun (w : World) (m : Option Nat) => run_eql_map_nil_sl (P := Try.prog) w 58 _ _ m Try.underlying58
  rcases h with ⟨rfl, e⟩ | ⟨d, rfl, h⟩
  · have HE := hid e
    clear e
    go_enter Try.func37, Try.ntmps37
    go_wp2
    go_ret
    exact ⟨none, rfl, Or.inl ⟨rfl, HE.out⟩, fun b hb => (by cases hb), Touch.refl _ _⟩
  · obtain ⟨es, cl, hb, hm⟩ := h.copy
    have HM := hid hm
    have hta := fun w v => run_typeAssert_map_sl (P := Try.prog) w 58 20 _ _ v Try.underlying58
    clear h hm
    go_enter Try.func37, Try.ntmps37
    go_wp2
    rw [run_callFunc_extern Try.func42 (by kernel_rfl) (by kernel_rfl) (by kernel_rfl) (e := Extern.MapsClone.clone) (by kernel_rfl), run_maps_clone_sl w 58 hb]
    simp only [Result.andThen]
    rw [Oper.upon_value]
    go_wp2
    go_ret
    exact ⟨some w.heap.size, rfl, Or.inr ⟨_, rfl, HM.out⟩, fun b hb => (by cases hb; exact Nat.le_refl _), (Touch.refl _ _).alloc _⟩
/-- Seats in memory, and how many rows the map has at most. -/
def Sp (w : World) (s : Nat) (F : List Nat) (L : List Se) (G : List Int) (R : Nat) : Prop := ∃ mc mr mk nr CH, F = fpS s mc mr mk CH ∧ L = CH.map Prod.snd ∧ Sm w s mc mr mk nr CH G ∧ nr ≤ R
theorem Sp.own {w : World} {s R : Nat} {F : List Nat} {L : List Se} {G : List Int} (h : Sp w s F L G R) : ∀ q, q ∈ F → Own1 w q := by
  obtain ⟨mc, mr, mk, nr, CH, rfl, rfl, h1, _⟩ := h
  exact h1.own
theorem Sp.keep0 {w w' : World} {s R : Nat} {F : List Nat} {L : List Se} {G : List Int} (h : Sp w s F L G R) (T : Touch [] w w') : Sp w' s F L G R := by
  obtain ⟨mc, mr, mk, nr, CH, rfl, rfl, h1, h2⟩ := h
  exact ⟨mc, mr, mk, nr, CH, rfl, rfl, h1.keep0 T, h2⟩
theorem placeP {w : World} {s R : Nat} {F : List Nat} {L : List Se} {G : List Int} (h : Sp w s F L G R) {x : Se} (hx : Wf x) (hn : ∀ y ∈ L, y.1 ≠ x.1) (hR : R ≤ 30000000000000) (hl : L.length ≤ 10000000000000) : Calls Try.prog 35 #[PT s, sv x] w fun e w' => e = .returned (.tuple #[]) ∧ ∃ F', Sp w' s F' (L ++ [x]) G (R + 3) ∧ Touch F w w' ∧ Nf w F F' := by
  obtain ⟨mc, mr, mk, nr, CH, rfl, rfl, h1, h3⟩ := h
  rw [List.length_map] at hl
  refine (place_ h1 x hx (fun p hp => hn p.2 (List.mem_map.2 ⟨p, hp, rfl⟩)) (by unfold maxLen; omega) (by unfold maxLen; omega)).mono ?_
  rintro e w' ⟨rfl, b, d, q, n, n1, n2, n3, n4, n5, n6⟩
  refine ⟨rfl, _, ⟨some b, some d, mk, n, CH ++ [(q, x)], rfl, by simp, n2, by omega⟩, n3, fun z hz => ?_⟩
  rcases mem_fpS.1 hz with e | e | e | e | e
  · exact Or.inl (mem_fpS.2 (Or.inl e))
  · rcases n5 with e2 | e2
    · exact Or.inl (mem_fpS.2 (Or.inr (Or.inl (by rw [e2]; exact e))))
    · cases e; exact Or.inr e2
  · rcases n6 with e2 | e2
    · exact Or.inl (mem_fpS.2 (Or.inr (Or.inr (Or.inl (by rw [e2]; exact e)))))
    · cases e; exact Or.inr e2
  · exact Or.inl (mem_fpS.2 (Or.inr (Or.inr (Or.inr (Or.inl e)))))
  · rw [List.map_append] at e
    rcases List.mem_append.1 e with e | e
    · exact Or.inl (mem_fpS.2 (Or.inr (Or.inr (Or.inr (Or.inr e)))))
    · simp only [List.map_cons, List.map_nil, List.mem_singleton] at e
      exact Or.inr (by omega)
def CnE (e : Ending) (w w' : World) (L : List Se) (G : List Int) (N : Nat) : Prop := ∃ s2 F2, e = .returned (PT s2) ∧ Sq w' s2 F2 L G N ∧ Touch [] w w' ∧ ∀ q, q ∈ F2 → w.heap.size ≤ q
/-- What stands between two seats that are copied. -/
structure Cp (w wr : World) (s2 : Nat) (L : List Se) (G : List Int) (i : Nat) (a : Option Addr) (m c : Nat) : Prop where
  t : Touch [] w wr
  sp : ∃ F2, Sp wr s2 F2 (L.take i) G (3 * i) ∧ ∀ q, q ∈ F2 → w.heap.size ≤ q
  row : wr.ownsRow w.heap.size 33 3 (.slice a m c) m (L.flatMap sc)
theorem cp_start {w w2 w3 : World} {L : List Se} {G : List Int} {m2 : Option Nat} {a : Option Addr} {m c : Nat} (h : (m2 = none ∧ G = []) ∨ ∃ b, m2 = some b ∧ MapK KI w2 b G.length (kmap G)) (hm : ∀ b, m2 = some b → w.heap.size ≤ b) (t2 : Touch [] w w2) (t3 : Touch [] (w2.alloc (.cells (sbc none none m2) 60)) w3) (r3 : w3.ownsRow (w2.alloc (.cells (sbc none none m2) 60)).heap.size 33 3 (.slice a m c) m (L.flatMap sc)) : Cp w w3 w2.heap.size L G 0 a m c := by
  have ta : Touch [] w2 (w2.alloc (.cells (sbc none none m2) 60)) := (Touch.refl _ _).alloc _
  have t23 : Touch [] w2 w3 := ta.trans' t3
  refine ⟨t2.trans' t23, ⟨fpS w2.heap.size none none m2 [], ⟨none, none, m2, 0, [], rfl, rfl, ⟨t3.keep (heap_alloc_new w2 _) (by simp), Or.inl ⟨rfl, rfl, rfl⟩, ?_, fun b hb => ⟨fun e => (by cases e), fun e => (by cases e)⟩, ⟨fun _ _ => none, fun _ _ => none, fun p hp => (by cases hp), fun k _ n => trivial⟩, List.nodup_nil⟩, Nat.le_refl _⟩, fun q hq => ?_⟩, own_base r3 (t2.trans' ta).size⟩
  · rcases h with h1 | ⟨b, h1, h2⟩
    · exact Or.inl h1
    · exact Or.inr ⟨b, h1, h2.keep t23 (by simp)⟩
  · rcases mem_fpS.1 hq with e | e | e | e | e
    · rw [e]; exact t2.size
    · cases e
    · cases e
    · exact hm q e
    · cases e
set_option maxHeartbeats 4000000 in
set_option maxRecDepth 100000 in
theorem clone_ {w : World} {s N : Nat} {F : List Nat} {L : List Se} {G : List Int} (h : Sq w s F L G N) (hN : N ≤ 4400000000000) : Calls Try.prog 25 #[PT s] w fun e w' => CnE e w w' L G N := by
  have hv := h.iv
  have HAL : Hid (∀ w', Touch [] w w' → Calls Try.prog 18 #[PT s] w' fun e w2 => SlE e w' w2 L) := hid (fun w' t => by
    obtain ⟨mc, mr, mk, nr, CH, rfl, rfl, h1, h2⟩ := (h.keep0 t).chl (by omega)
    exact all_ h1 h2)
  obtain ⟨mc, mr, mk, nr, CH, hF, hL, h1, _, _⟩ := h
  have c2 := h1.cell.2.2.1
  have HMC := hid (mclone_ w mk G h1.km)
  have HFIN : Hid (∀ wr s2 a m c, Cp w wr s2 L G L.length a m c → CnE (.returned (PT s2)) w wr L G N) := hid (fun wr s2 a m c q => by
    obtain ⟨F2, ⟨mc, mr, mk, nr, CH, e1, e2, e3, e4⟩, q2⟩ := q.sp
    rw [List.take_length] at e2
    have := hv.ll
    exact ⟨s2, F2, rfl, ⟨mc, mr, mk, nr, CH, e1, e2, e3, hv, by omega⟩, q.t, q2⟩)
  have HOK : Hid (∀ i x, L[i]? = some x → Wf x ∧ ∀ y ∈ L.take i, y.1 ≠ x.1) := hid (fun i x hx => by
    have hm := List.mem_of_getElem? hx
    refine ⟨(hv.ok x hm).2, fun y hy e => ?_⟩
    obtain ⟨j, hj⟩ := List.getElem?_of_mem hy
    have hj1 : j < i := by
      have := (List.getElem?_eq_some_iff.1 hj).1
      rw [List.length_take] at this
      omega
    rw [List.getElem?_take, if_pos hj1] at hj
    have hi := (List.getElem?_eq_some_iff.1 hx).1
    have g1 : (L.map Prod.fst)[i]? = some x.1 := by rw [List.getElem?_map, hx]; rfl
    have g2 : (L.map Prod.fst)[j]? = some x.1 := by rw [List.getElem?_map, hj, ← e]; rfl
    have := (List.getElem?_inj (by simpa using hi) hv.nc).1 (g1.trans g2.symm)
    omega)
  obtain ⟨m, hm⟩ : ∃ m, m = L.length := ⟨_, rfl⟩
  have HM := hid hm
  have HLE : Hid (m ≤ 4400000000000) := hid (by have := hv.ll; omega)
  clear h1 hF hL hv hN hm
  unfold PT at HAL ⊢
  go_enter Try.func25, Try.ntmps25
  go_upto_region 4 with (go_at_call 37; refine HMC.out.mono ?_; rintro e w2 ⟨m2, rfl, q1, q2, q3⟩; have HQ := hid (And.intro q1 (And.intro q2 q3)); clear q1 q2 q3)
  obtain ⟨W3, hW3⟩ : ∃ W3, W3 = w2.alloc (.cells #[.map none, .map none, .map m2] 60) := ⟨_, rfl⟩
  have t3 : Touch [] w W3 := by rw [hW3]; exact HQ.out.2.2.alloc _
  have HA3 := hid (HAL.out W3 t3)
  have HST : Hid (∀ w4 a c, Touch [] W3 w4 → w4.ownsRow W3.heap.size 33 3 (.slice a L.length c) L.length (L.flatMap sc) → Cp w w4 w2.heap.size L G 0 a m c) := hid (fun w4 a c t r => by
    rw [hW3] at t r
    rw [HM.out]
    exact cp_start HQ.out.1 HQ.out.2.1 HQ.out.2.2 t r)
  rw [← hW3]
  clear hW3 t3 HAL HMC c2 HQ
  go_wp2_with (go_at_call 18; refine HA3.out.mono ?_; rintro e w4 ⟨a4, c4, rfl, r4, t4⟩; have HS4 := hid (HST.out w4 a4 c4 t4 r4); clear r4 t4)
  rw [← HM.out]
  obtain ⟨s2, hs2⟩ : ∃ s2, s2 = w2.heap.size := ⟨_, rfl⟩
  rw [← hs2] at HS4 ⊢
  clear hs2 HST HA3
  go_loopw [18] (fun s18 wr => ∃ i : Nat, s18 = .int .i64 (i : Int) ∧ i ≤ m ∧ Hid (Cp w wr s2 L G i a4 m c4)) (fun i _ => m - (intOf i).toNat)
  case atStart => exact ⟨0, rfl, Nat.zero_le _, HS4⟩
  case round =>
    clear HS4
    obtain ⟨i, rfl, hi, HR⟩ := hrel
    by_cases hlt : i < m
    · have zi : (i : Int) < (m : Int) := by omega
      have zL : (m : Int) < 9223372036854775807 := by have := HLE.out; omega
      obtain ⟨y, hy⟩ : ∃ y, L[i]? = some y := ⟨_, List.getElem?_eq_getElem (by have := HM.out; omega)⟩
      obtain ⟨V1, hV1⟩ : ∃ V1, V1 = wr.alloc (.cells #[.int .i64 y.1, .int .i64 y.2.1, .int .i64 y.2.2] 33) := ⟨_, rfl⟩
      obtain ⟨g, hg, e0, e1, e2⟩ : ∃ g, a4 = some ⟨g, 0, none⟩ ∧ wr.cell? ⟨g, i * 3, none⟩ = some (.int .i64 y.1) ∧ wr.cell? ⟨g, i * 3 + 1, none⟩ = some (.int .i64 y.2.1) ∧ wr.cell? ⟨g, i * 3 + 2, none⟩ = some (.int .i64 y.2.2) := by
        obtain ⟨g, c', e, _, _⟩ := own_some HR.out.row (by omega)
        simp only [Value.slice.injEq, true_and] at e
        obtain ⟨rfl, rfl⟩ := e
        exact ⟨g, rfl, seat_cells HR.out.row hy⟩
      subst hg
      have tv1 : Touch [] wr V1 := by rw [hV1]; exact (Touch.refl _ _).alloc _
      have hb1 : V1.heap[wr.heap.size]? = some (.cells #[.int .i64 y.1, .int .i64 y.2.1, .int .i64 y.2.2] 33 (0, 0)) := by rw [hV1]; exact heap_alloc_new wr _
      have f0 := cell_at (j := 0) (v := .int .i64 y.1) hb1 rfl
      have f1 := cell_at (j := 1) (v := .int .i64 y.2.1) hb1 rfl
      have f2 := cell_at (j := 2) (v := .int .i64 y.2.2) hb1 rfl
      have HCL : Hid (Calls Try.prog 35 #[PT s2, sv y] V1 fun e w' => e = .returned (.tuple #[]) ∧ Cp w w' s2 L G (i + 1) (some ⟨g, 0, none⟩) m c4) := hid (by
        obtain ⟨F2, q1, q2⟩ := HR.out.sp
        have hlen : (L.take i).length ≤ i := by rw [List.length_take]; omega
        have hle := HLE.out
        refine (placeP (q1.keep0 tv1) (HOK.out i y hy).1 (HOK.out i y hy).2 (by omega) (by omega)).mono ?_
        rintro e w' ⟨rfl, F3, z1, z2, z3⟩
        rw [← take_snoc hy] at z1
        have z2' : Touch F2 wr w' := (tv1.mono (fun _ e => by cases e)).trans' z2
        have hz := HR.out.t.size
        refine ⟨rfl, HR.out.t.trans z2' (fun z hz => Or.inr (q2 z hz)), ⟨F3, z1, fun q hq => ?_⟩, own_other HR.out.row z2' q1.own (by decide) (by decide)⟩
        rcases z3 q hq with e | e
        · exact q2 q e
        · have := tv1.size; omega)
      unfold PT sv at HCL
      clear hy HR tv1 hb1
      go_upto_region 7 with fail
      rw [← hV1]
      clear hV1 e0 e1 e2
      go_wp2_with (go_at_call 35; refine HCL.out.mono ?_; rintro e w5 ⟨rfl, q5⟩; have HX := hid q5; clear q5)
      go_roundw
      case rel => exact ⟨i + 1, by go_num, by omega, HX⟩
      case measure => simp [intOf]; omega
    · have HZ : Hid (CnE (.returned (PT s2)) w wr L G N) := hid (by
        obtain rfl : i = m := by omega
        have := HR.out
        rw [HM.out] at this
        exact HFIN.out _ _ _ _ _ this)
      have zi : (m : Int) ≤ (i : Int) := by omega
      unfold PT at HZ
      clear HR hlt hi
      go_wp2
      go_ret
      exact HZ.out
end Go.Proofs.Ytlmmljmhfghlnaa
