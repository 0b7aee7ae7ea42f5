/- The contract of the document's sorted list of keys: it is in order and holds the same keys; the list's bytes are within the form's reach. -/
import Derived.Test.YtbaljfkjgfkdiaaDoorOwn
namespace Go.Proofs.YtbaljfkjgfkdiaaDoor
open Go.RowKit Go.Sort
set_option linter.unusedVariables false

theorem perm_step (xs S : List K) (k i : Nat) (h : k < xs.length) (hp : S.Perm (xs.take k)) : (S.take i ++ xs[k] :: S.drop i).Perm (xs.take (k + 1)) := by
  rw [take_snocK xs k h]
  exact (ins_perm S i xs[k]).trans (hp.append_right _)

def Names (xs : List K) : Prop := ∀ x ∈ xs, x.2.size ≤ maxLen

set_option maxHeartbeats 4000000 in
theorem ref26_row (xs : List K) (b off cap : Nat) (w : World) (hl : xs.length * 24 ≤ 140737488351232) (hN : Names xs) (R : Row w b off xs) :
    Calls Tryd.prog 26 #[.slice (some ⟨b, off, none⟩) xs.length cap] w fun e w' => ∃ v ys, e = .returned v ∧ Sl w' v ys ∧ ys.Perm xs ∧ ys.Pairwise leK ∧ Below w.heap.size w w' := by
  obtain ⟨i0, hi, hz0, hz1, hz2'⟩ := info_parts info31
  have mixed : Tryd.prog.follows .mixedOrders = true := by kernel_rfl
  have HR : Hid _ := R
  have HNm : Hid _ := hN
  clear R hN
  go_enter Tryd.func26, Tryd.ntmps26
  go_wp2
  go_loopw [3, 11] (fun t i wr => ∃ (k g c : Nat) (S : List K), i = .int .i64 k ∧ k ≤ xs.length ∧ Hid (S.Perm (xs.take k) ∧ S.Pairwise leK) ∧ Hid (S.length = k) ∧ t = .slice (some ⟨g, 0, none⟩) S.length c ∧ wr.ownsRow w.heap.size 31 2 (.slice (some ⟨g, 0, none⟩) S.length c) S.length (cellsK S) ∧ Below w.heap.size w wr) (fun _ i _ => xs.length - (intOf i).toNat)
  case atStart => exact ⟨0, w.heap.size, 0, [], rfl, Nat.zero_le _, ⟨List.Perm.refl _, List.Pairwise.nil⟩, rfl, rfl, ⟨rfl, Or.inr ⟨w.heap.size, 0, #[], rfl, Nat.le_refl _, heap_alloc_new w _, Nat.le_refl _, by unfold maxLen; omega, rfl, rfl⟩⟩, (Below.refl _ _).alloc (Nat.le_refl _) _⟩
  case round =>
    obtain ⟨k, g, c, S, rfl, hk, HS, HSl, rfl, hown, hb⟩ := hrel
    obtain ⟨wo, rfl⟩ : ∃ wo, wo = wr := ⟨_, rfl⟩
    by_cases hlt : k < xs.length
    · have hz : (k : Int) < (xs.length : Int) := by omega
      have hz' : (0 : Int) ≤ (k : Int) := by omega
      have f0 : wo.cell? ⟨b, off + k * 2, none⟩ = some (.int .u16 xs[k].1) := by rw [hb.cell (by exact HR.out.lt)]; exact HR.out.at0 k hlt
      have f1 : wo.cell? ⟨b, off + k * 2 + 1, none⟩ = some (.string xs[k].2) := by rw [hb.cell (by exact HR.out.lt)]; exact HR.out.at1 k hlt
      have HX : Hid (∀ i, (S.take i ++ (xs[k].1, xs[k].2) :: S.drop i).Perm (xs.take (k + 1))) := fun i => perm_step xs S k i hlt HS.out.1
      have hyn : Hid (xs[k].2.size ≤ maxLen) := HNm.out _ (List.getElem_mem hlt)
      have HSN : Hid (∀ j (h : j < S.length), S[j].2.size ≤ maxLen) := fun j h => HNm.out _ (List.mem_of_mem_take (HS.out.1.mem_iff.1 (List.getElem_mem h)))
      have HO : Hid _ := hown
      have HB : Hid _ := hb
      clear hown hb
      generalize xs[k].1 = x at *
      generalize xs[k].2 = y at *
      go_wp2
      obtain ⟨W1, hW1⟩ : ∃ W1, W1 = wo.alloc (.cells #[.int .u16 x, .string y] 31) := ⟨_, rfl⟩
      have B1 : Below wo.heap.size wo W1 := by rw [hW1]; exact (Below.refl _ _).alloc (Nat.le_refl _) _
      have Row1 : Hid (Row W1 g 0 S) := owns_row (owns_below HO.out B1)
      have c0 : W1.cell? ⟨wo.heap.size, 0, none⟩ = some (.int .u16 x) := by rw [hW1]; simp
      have c1 : W1.cell? ⟨wo.heap.size, 1, none⟩ = some (.string y) := by rw [hW1]; simp
      have z1 : wo.heap.size < W1.heap.size := by rw [hW1]; simp
      have C0 : Hid _ := c0
      have C1 : Hid _ := c1
      have BW : Hid (Below wo.heap.size wo W1) := B1
      rw [← hW1]
      clear hW1 B1 c0 c1 f0 f1
      go_loopw [6] (fun i wr => ∃ (j : Nat), i = .int .i64 j ∧ j ≤ S.length ∧ Hid (∀ m (h : m < S.length), j ≤ m → cmpK x y S[m].1 S[m].2 < 0) ∧ Gr W1 wr) (fun i _ => (intOf i).toNat)
      case atStart => exact ⟨S.length, rfl, Nat.le_refl _, fun m h h' => by omega, Gr.refl _⟩
      case round =>
        obtain ⟨j, rfl, hj, HJ, GW⟩ := hrel
        have d0 : ∀ n os, (grow (wr.drewN n) os).cell? ⟨wo.heap.size, 0, none⟩ = some (.int .u16 x) := fun n os => (GW.grow n os).cell C0.out (by exact z1)
        have d1 : ∀ n os, (grow (wr.drewN n) os).cell? ⟨wo.heap.size, 1, none⟩ = some (.string y) := fun n os => (GW.grow n os).cell C1.out (by exact z1)
        have HGW : Hid (Gr W1 wr) := GW
        by_cases hj0 : 0 < j
        · obtain ⟨jp, rfl⟩ : ∃ jp, j = jp + 1 := ⟨j - 1, by omega⟩
          have hjl : jp < S.length := by omega
          have hjz : (0 : Int) < (jp : Int) + 1 := by omega
          have e0 : ∀ n os, (grow (wr.drewN n) os).cell? ⟨g, jp * 2, none⟩ = some (.int .u16 S[jp].1) := fun n os => by have := (GW.grow n os).cell (Row1.out.at0 jp hjl) (by exact Row1.out.lt); rwa [Nat.zero_add] at this
          have e1 : ∀ n os, (grow (wr.drewN n) os).cell? ⟨g, jp * 2 + 1, none⟩ = some (.string S[jp].2) := fun n os => by have := (GW.grow n os).cell (Row1.out.at1 jp hjl) (by exact Row1.out.lt); rwa [Nat.zero_add] at this
          have hwp : IntKind.i64.wrap (jp : Int) = (jp : Int) := by have := HSl.out; rw [IntKind.wrap_i64]; omega
          have jz1 : (jp : Int) < (S.length : Int) := by omega
          have hyn' := HSN.out jp hjl
          have HJS : Hid (cmpK x y S[jp].1 S[jp].2 < 0 → ∀ m (h : m < S.length), jp ≤ m → cmpK x y S[m].1 S[m].2 < 0) := fun hc m h hm => by
            by_cases e : m = jp
            · subst e; exact hc
            · exact HJ.out m h (by omega)
          have HST : Hid (¬ cmpK x y S[jp].1 S[jp].2 < 0 → ∀ m (h : m < S.length), m + 1 = jp + 1 → 0 ≤ cmpK x y S[m].1 S[m].2) := fun hc m h e => by
            obtain rfl : m = jp := by omega
            omega
          have A : Hid _ := fun w => ref32 x S[jp].1 y S[jp].2 w hyn.out hyn'
          clear GW hyn'
          generalize hcv : cmpK x y S[jp].1 S[jp].2 = cv at *
          have HCV : Hid _ := hcv
          clear hcv
          generalize S[jp].1 = x' at *
          generalize S[jp].2 = y' at *
          by_cases hc : cv < 0
          · go_wp2_with fail
            go_quiet_grown (first | (go_at_call 32; refine Calls.grown_of (A.out _)))
            go_wp2
            go_roundw
            case rel => exact ⟨jp, by go_num, by omega, HJS.out hc, HGW.out.grow _ _⟩
            case measure => simp [intOf]
          · have HSTOP : Hid (∀ m (h : m < S.length), m + 1 = jp + 1 → 0 ≤ cmpK x y S[m].1 S[m].2) := HST.out hc
            have hcz : ¬ cv < 0 := hc
            clear HST HJS
            go_wp2_with fail
            go_quiet_grown (first | (go_at_call 32; refine Calls.grown_of (A.out _)))
            obtain ⟨V, hV⟩ : ∃ V, V = grow (wr.drewN nq) osq := ⟨_, rfl⟩
            have HV : Hid (Gr wr V) := by rw [hV]; exact gr_grow _ _ _
            rw [← hV]
            clear hV e0 e1 d0 d1 A
            obtain ⟨j, hjj⟩ : ∃ j, j = jp + 1 := ⟨_, rfl⟩
            have HSTP : Hid (∀ m (h : m < S.length), m + 1 = j → 0 ≤ cmpK x y S[m].1 S[m].2) := by subst hjj; exact HSTOP
            have hjj' : (jp : Int) + 1 = (j : Int) := by omega
            have hcd : decide (cv < 0) = false := decide_eq_false (by omega)
            simp only [hjj', hcd]
            rw [← hjj] at hj HJ
            clear HSTOP hwp jz1 hc hcz hcd hjz HCV hjl hj0 hjj hjj'
            have GV : Gr W1 V := HGW.out.trans HV.out
            have BB : Below wo.heap.size wo V := BW.out.trans (GV.below.mono (by omega))
            have hown2 := owns_below HO.out BB
            have hbw : Below w.heap.size w V := HB.out.trans (BB.mono HB.out.size)
            have hsz := hbw.size
            have hz2 := GV.size
            have D0 : Hid (V.cell? ⟨wo.heap.size, 0, none⟩ = some (.int .u16 x)) := GV.cell C0.out (by exact z1)
            have D1 : Hid (V.cell? ⟨wo.heap.size, 1, none⟩ = some (.string y)) := GV.cell C1.out (by exact z1)
            have HC : Hid (cellsK (S.take S.length ++ (0, ⟨#[]⟩) :: S.drop S.length) = cellsK S ++ [.int .u16 0, .string ⟨#[]⟩]) := by show _ = _; rw [List.take_length, List.drop_length, cellsK_app, cellsK_one]
            have hgo : g < wo.heap.size := by
              have := owns_row HO.out
              exact this.lt
            have hSb : S.length * 24 ≤ 140737488351232 := by have := HSl.out; omega
            clear GV BB HV HGW
            go_wp2_with (at_builtin; refine wpList_append_lies _ rfl _ _ 55 rfl w.heap.size 31 i0 (.agg #[.int .u16 0, .string ⟨#[]⟩]) 2 24 Tryd.underlying55 hi hz0 hz1 hz2' rfl (by decide) _ _ _ rfl (hown2.alloc _) ⟨V.heap.size, 0, none⟩ 1 1 [.int .u16 0, .string ⟨#[]⟩] rfl rfl (cell_two_new _ _ _ _) (by simp [Value.oneCell']) (by decide) (by unfold maxLen; omega) (by omega) (by simp; omega) _ rfl ?_; intro g1 c1 w3 hown3 hgrow hat hlt3)
            have hne : g1 ≠ wo.heap.size := by
              rcases hat with h | h
              · have h2 : some g = some g1 := h
                cases h2
                omega
              · simp at h
                omega
            have hB3 : Below w.heap.size w w3 := (hbw.alloc hsz _).grown hgrow (by simp; omega) (fun j hj => by
              have h1 := owns_base hown2
              have h2 : some g = some j := hj
              cases h2
              exact h1)
            have E0 : Hid (w3.cell? ⟨wo.heap.size, 0, none⟩ = some (.int .u16 x)) := by
              show _ = _
              rw [World.cell?_of_block (hgrow.block wo.heap.size (by simp; omega) (fun h => by
                have h2 : some wo.heap.size = some g := h
                cases h2
                omega)), World.cell?_of_block (Below.heap_alloc V _ wo.heap.size (by omega))]
              exact D0.out
            have E1 : Hid (w3.cell? ⟨wo.heap.size, 1, none⟩ = some (.string y)) := by
              show _ = _
              rw [World.cell?_of_block (hgrow.block wo.heap.size (by simp; omega) (fun h => by
                have h2 : some wo.heap.size = some g := h
                cases h2
                omega)), World.cell?_of_block (Below.heap_alloc V _ wo.heap.size (by omega))]
              exact D1.out
            have O3 : Hid (w3.ownsRow w.heap.size 31 2 (.slice (some ⟨g1, 0, none⟩) (S.length + 1) c1) (S.length + 1) (cellsK (S.take S.length ++ (0, ⟨#[]⟩) :: S.drop S.length))) := by
              show World.ownsRow _ _ _ _ _ _ _
              rw [HC.out]
              exact hown3
            have HB3 : Hid _ := hB3
            clear hat hgrow D0 D1 hown3 hown2 hbw hsz hB3 HC hz2
            go_wp2_with fail
            go_loopw [7] (fun i wr => ∃ (m : Nat) (z : K), i = .int .i64 m ∧ j ≤ m ∧ m ≤ S.length ∧ Hid (wr.ownsRow w.heap.size 31 2 (.slice (some ⟨g1, 0, none⟩) (S.length + 1) c1) (S.length + 1) (cellsK (S.take m ++ z :: S.drop m))) ∧ Hid (Below w.heap.size w wr) ∧ Hid (wr.cell? ⟨wo.heap.size, 0, none⟩ = some (.int .u16 x)) ∧ Hid (wr.cell? ⟨wo.heap.size, 1, none⟩ = some (.string y))) (fun i _ => (intOf i).toNat)
            case atStart => exact ⟨S.length, (0, ⟨#[]⟩), by go_num, hj, Nat.le_refl _, O3, HB3, E0, E1⟩
            case round =>
              obtain ⟨m, z, rfl, hjm, hm, HW, HBW, F0, F1⟩ := hrel
              have hgl := gap_len S m z hm
              by_cases hmj : j < m
              · obtain ⟨mp, rfl⟩ : ∃ mp, m = mp + 1 := ⟨m - 1, by omega⟩
                have hmz : (j : Int) < (mp : Int) + 1 := by omega
                have hw' := HW.out
                rw [← hgl] at hw'
                obtain ⟨r0, r1, r2, r3⟩ := owns_at hw' mp (by omega)
                obtain ⟨q0, q1, q2, q3⟩ := owns_at hw' (mp + 1) (by omega)
                have hst := owns_set hw' (mp + 1) (by omega) S[mp].1 S[mp].2
                rw [gap_at S mp z (by omega)] at r0 r1
                rw [show (S[mp].1, S[mp].2) = S[mp] from rfl, gap_step S mp z (by omega)] at hst
                have HST : Hid _ := hst
                have i1 : (mp : Int) < (S.length : Int) + 1 := by omega
                have i2 : (mp : Int) + 1 < (S.length : Int) + 1 := by omega
                have i3 : (0 : Int) ≤ (mp : Int) + 1 := by omega
                have i4 : ((mp : Int) + 1).toNat = mp + 1 := by omega
                have i5 : (0 : Int) ≤ (mp : Int) := by omega
                have hg1 : w.heap.size ≤ g1 := owns_base HW.out
                clear hst hw'
                generalize S[mp].1 = x' at *
                generalize S[mp].2 = y' at *
                go_wp2
                go_roundw
                case rel =>
                  refine ⟨mp, S[mp], by go_num, by omega, by omega, ?_, ?_, ?_, ?_⟩
                  · show World.ownsRow _ _ _ _ _ _ _
                    have h := HST.out
                    rw [gap_len S mp _ (by omega)] at h
                    exact h
                  · exact (HBW.out.setCell (by exact hg1) _).setCell (by exact hg1) _
                  · show _ = _
                    rw [set_far _ _ _ _ (by exact hne), set_far _ _ _ _ (by exact hne)]
                    exact F0.out
                  · show _ = _
                    rw [set_far _ _ _ _ (by exact hne), set_far _ _ _ _ (by exact hne)]
                    exact F1.out
                case measure => simp [intOf]
              · obtain rfl : m = j := by omega
                have hw' := HW.out
                rw [← hgl] at hw'
                obtain ⟨q0, q1, q2, q3⟩ := owns_at hw' m (by omega)
                have hst := owns_set hw' m (by omega) x y
                rw [gap_end S m z (x, y) hm] at hst
                have HST : Hid _ := hst
                have p0 := F0.out
                have p1 := F1.out
                have i2 : (m : Int) < (S.length : Int) + 1 := by omega
                have i3 : (0 : Int) ≤ (m : Int) := by omega
                have hg1 : w.heap.size ≤ g1 := owns_base HW.out
                clear hst hw'
                go_wp2
                go_roundw
                case rel =>
                  have hk1 := HSl.out
                  have hlen := gap_len S m (x, y) hm
                  refine ⟨k + 1, g1, c1, S.take m ++ (x, y) :: S.drop m, by go_num, by omega, ⟨HX.out m, ?_⟩, by show _ = _; omega, by rw [hlen], ?_, ?_⟩
                  · exact ins_sorted S m (x, y) hm HS.out.2 (fun a h ha => HJ.out a h ha) (fun h => Int.not_lt.2 (HSTP.out (m - 1) (by omega) (by omega)))
                  · exact HST.out
                  · exact (HBW.out.setCell (by exact hg1) _).setCell (by exact hg1) _
                case measure => simp [intOf]; omega
        · have HSTP : Hid (∀ m (h : m < S.length), m + 1 = j → 0 ≤ cmpK x y S[m].1 S[m].2) := fun m h e => by omega
          have hjz : decide ((j : Int) > 0) = false := decide_eq_false (by omega)
          have hjz' : ¬ (0 : Int) < (j : Int) := by omega
          clear GW
          go_wp2_with fail
          go_quiet (fail)
          obtain ⟨V, hV⟩ : ∃ V, V = wr.drewN nq := ⟨_, rfl⟩
          have HV : Hid (Gr wr V) := by rw [hV]; exact (Gr.refl _).drewN _
          rw [← hV]
          clear hV d0 d1 hjz hjz'
          have GV : Gr W1 V := HGW.out.trans HV.out
          have BB : Below wo.heap.size wo V := BW.out.trans (GV.below.mono (by omega))
          have hown2 := owns_below HO.out BB
          have hbw : Below w.heap.size w V := HB.out.trans (BB.mono HB.out.size)
          have hsz := hbw.size
          have hz2 := GV.size
          have D0 : Hid (V.cell? ⟨wo.heap.size, 0, none⟩ = some (.int .u16 x)) := GV.cell C0.out (by exact z1)
          have D1 : Hid (V.cell? ⟨wo.heap.size, 1, none⟩ = some (.string y)) := GV.cell C1.out (by exact z1)
          have HC : Hid (cellsK (S.take S.length ++ (0, ⟨#[]⟩) :: S.drop S.length) = cellsK S ++ [.int .u16 0, .string ⟨#[]⟩]) := by show _ = _; rw [List.take_length, List.drop_length, cellsK_app, cellsK_one]
          have hgo : g < wo.heap.size := by
            have := owns_row HO.out
            exact this.lt
          have hSb : S.length * 24 ≤ 140737488351232 := by have := HSl.out; omega
          clear GV BB HV HGW
          go_wp2_with (at_builtin; refine wpList_append_lies _ rfl _ _ 55 rfl w.heap.size 31 i0 (.agg #[.int .u16 0, .string ⟨#[]⟩]) 2 24 Tryd.underlying55 hi hz0 hz1 hz2' rfl (by decide) _ _ _ rfl (hown2.alloc _) ⟨V.heap.size, 0, none⟩ 1 1 [.int .u16 0, .string ⟨#[]⟩] rfl rfl (cell_two_new _ _ _ _) (by simp [Value.oneCell']) (by decide) (by unfold maxLen; omega) (by omega) (by simp; omega) _ rfl ?_; intro g1 c1 w3 hown3 hgrow hat hlt3)
          have hne : g1 ≠ wo.heap.size := by
            rcases hat with h | h
            · have h2 : some g = some g1 := h
              cases h2
              omega
            · simp at h
              omega
          have hB3 : Below w.heap.size w w3 := (hbw.alloc hsz _).grown hgrow (by simp; omega) (fun j hj => by
            have h1 := owns_base hown2
            have h2 : some g = some j := hj
            cases h2
            exact h1)
          have E0 : Hid (w3.cell? ⟨wo.heap.size, 0, none⟩ = some (.int .u16 x)) := by
            show _ = _
            rw [World.cell?_of_block (hgrow.block wo.heap.size (by simp; omega) (fun h => by
              have h2 : some wo.heap.size = some g := h
              cases h2
              omega)), World.cell?_of_block (Below.heap_alloc V _ wo.heap.size (by omega))]
            exact D0.out
          have E1 : Hid (w3.cell? ⟨wo.heap.size, 1, none⟩ = some (.string y)) := by
            show _ = _
            rw [World.cell?_of_block (hgrow.block wo.heap.size (by simp; omega) (fun h => by
              have h2 : some wo.heap.size = some g := h
              cases h2
              omega)), World.cell?_of_block (Below.heap_alloc V _ wo.heap.size (by omega))]
            exact D1.out
          have O3 : Hid (w3.ownsRow w.heap.size 31 2 (.slice (some ⟨g1, 0, none⟩) (S.length + 1) c1) (S.length + 1) (cellsK (S.take S.length ++ (0, ⟨#[]⟩) :: S.drop S.length))) := by
            show World.ownsRow _ _ _ _ _ _ _
            rw [HC.out]
            exact hown3
          have HB3 : Hid _ := hB3
          clear hat hgrow D0 D1 hown3 hown2 hbw hsz hB3 HC hz2
          go_wp2_with fail
          go_loopw [7] (fun i wr => ∃ (m : Nat) (z : K), i = .int .i64 m ∧ j ≤ m ∧ m ≤ S.length ∧ Hid (wr.ownsRow w.heap.size 31 2 (.slice (some ⟨g1, 0, none⟩) (S.length + 1) c1) (S.length + 1) (cellsK (S.take m ++ z :: S.drop m))) ∧ Hid (Below w.heap.size w wr) ∧ Hid (wr.cell? ⟨wo.heap.size, 0, none⟩ = some (.int .u16 x)) ∧ Hid (wr.cell? ⟨wo.heap.size, 1, none⟩ = some (.string y))) (fun i _ => (intOf i).toNat)
          case atStart => exact ⟨S.length, (0, ⟨#[]⟩), by go_num, hj, Nat.le_refl _, O3, HB3, E0, E1⟩
          case round =>
            obtain ⟨m, z, rfl, hjm, hm, HW, HBW, F0, F1⟩ := hrel
            have hgl := gap_len S m z hm
            by_cases hmj : j < m
            · obtain ⟨mp, rfl⟩ : ∃ mp, m = mp + 1 := ⟨m - 1, by omega⟩
              have hmz : (j : Int) < (mp : Int) + 1 := by omega
              have hw' := HW.out
              rw [← hgl] at hw'
              obtain ⟨r0, r1, r2, r3⟩ := owns_at hw' mp (by omega)
              obtain ⟨q0, q1, q2, q3⟩ := owns_at hw' (mp + 1) (by omega)
              have hst := owns_set hw' (mp + 1) (by omega) S[mp].1 S[mp].2
              rw [gap_at S mp z (by omega)] at r0 r1
              rw [show (S[mp].1, S[mp].2) = S[mp] from rfl, gap_step S mp z (by omega)] at hst
              have HST : Hid _ := hst
              have i1 : (mp : Int) < (S.length : Int) + 1 := by omega
              have i2 : (mp : Int) + 1 < (S.length : Int) + 1 := by omega
              have i3 : (0 : Int) ≤ (mp : Int) + 1 := by omega
              have i4 : ((mp : Int) + 1).toNat = mp + 1 := by omega
              have i5 : (0 : Int) ≤ (mp : Int) := by omega
              have hg1 : w.heap.size ≤ g1 := owns_base HW.out
              clear hst hw'
              generalize S[mp].1 = x' at *
              generalize S[mp].2 = y' at *
              go_wp2
              go_roundw
              case rel =>
                refine ⟨mp, S[mp], by go_num, by omega, by omega, ?_, ?_, ?_, ?_⟩
                · show World.ownsRow _ _ _ _ _ _ _
                  have h := HST.out
                  rw [gap_len S mp _ (by omega)] at h
                  exact h
                · exact (HBW.out.setCell (by exact hg1) _).setCell (by exact hg1) _
                · show _ = _
                  rw [set_far _ _ _ _ (by exact hne), set_far _ _ _ _ (by exact hne)]
                  exact F0.out
                · show _ = _
                  rw [set_far _ _ _ _ (by exact hne), set_far _ _ _ _ (by exact hne)]
                  exact F1.out
              case measure => simp [intOf]
            · obtain rfl : m = j := by omega
              have hw' := HW.out
              rw [← hgl] at hw'
              obtain ⟨q0, q1, q2, q3⟩ := owns_at hw' m (by omega)
              have hst := owns_set hw' m (by omega) x y
              rw [gap_end S m z (x, y) hm] at hst
              have HST : Hid _ := hst
              have p0 := F0.out
              have p1 := F1.out
              have i2 : (m : Int) < (S.length : Int) + 1 := by omega
              have i3 : (0 : Int) ≤ (m : Int) := by omega
              have hg1 : w.heap.size ≤ g1 := owns_base HW.out
              clear hst hw'
              go_wp2
              go_roundw
              case rel =>
                have hk1 := HSl.out
                have hlen := gap_len S m (x, y) hm
                refine ⟨k + 1, g1, c1, S.take m ++ (x, y) :: S.drop m, by go_num, by omega, ⟨HX.out m, ?_⟩, by show _ = _; omega, by rw [hlen], ?_, ?_⟩
                · exact ins_sorted S m (x, y) hm HS.out.2 (fun a h ha => HJ.out a h ha) (fun h => Int.not_lt.2 (HSTP.out (m - 1) (by omega) (by omega)))
                · exact HST.out
                · exact (HBW.out.setCell (by exact hg1) _).setCell (by exact hg1) _
              case measure => simp [intOf]; omega
    · have hz : ¬ (k : Int) < (xs.length : Int) := by omega
      obtain rfl : k = xs.length := by omega
      have hS := HS.out
      rw [List.take_length] at hS
      clear HS
      go_wp2
      go_ret
      exact ⟨_, rfl, S, Or.inr ⟨_, _, _, rfl, owns_row hown⟩, hS.1, hS.2, hb⟩
theorem ref26_nil (a : Option Addr) (cap : Nat) (w : World) :
    Calls Tryd.prog 26 #[.slice a 0 cap] w fun e w' => ∃ v ys, e = .returned v ∧ Sl w' v ys ∧ ys.Perm [] ∧ ys.Pairwise leK ∧ Below w.heap.size w w' := by
  go_enter Tryd.func26, Tryd.ntmps26
  go_wp2
  go_loop [3, 11] (fun t i => t = .slice (some ⟨w.heap.size, 0, none⟩) 0 0 ∧ i = .int .i64 0) (fun _ _ => 0)
  case atStart => exact ⟨rfl, rfl⟩
  case round =>
    obtain ⟨rfl, rfl⟩ := hrel
    go_wp2
    go_ret
    exact ⟨_, rfl, [], Or.inl ⟨rfl, _, _, rfl⟩, rfl, List.Pairwise.nil, (Below.refl _ _).alloc (Nat.le_refl _) _⟩
theorem ref26 (xs : List K) (v : Value) (w : World) (hl : xs.length * 24 ≤ 140737488351232) (hN : Names xs) (R : Sl w v xs) :
    Calls Tryd.prog 26 #[v] w fun e w' => ∃ v ys, e = .returned v ∧ Sl w' v ys ∧ ys.Perm xs ∧ ys.Pairwise leK ∧ Below w.heap.size w w' := by
  rcases R with ⟨rfl, a, cap, rfl⟩ | ⟨b, off, cap, rfl, R⟩
  · exact ref26_nil a cap w
  · exact ref26_row xs b off cap w hl hN R
end Go.Proofs.YtbaljfkjgfkdiaaDoor
