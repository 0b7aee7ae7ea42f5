/- The document's Stretches; no conditions but those that each states. -/
import Derived.Test.YtibgfkjhohgkhaaTwd
namespace Go.Proofs.Ytibgfkjhohgkhaa.Ty
open Go.RowKit Go.Maps Go.ChangeMaps
open Tr
set_option linter.unusedVariables false
set_option linter.unusedSimpArgs false
theorem info49 : (Try.prog.info? 49).map (fun i => (i.zero, i.size, i.bytes)) = some (some (q4v zq), 4, 32) := by kernel_rfl
theorem half_step {x : Int} (h0 : 0 ≤ x) (i : Nat) : x / Ti.p2 i / 2 = x / Ti.p2 (i + 1) := by
  rw [Ti.p2_succ, Int.ediv_ediv, if_neg (fun h => by have := Ti.p2_pos i; omega), Int.sub_zero]
theorem half_b {x : Int} (h0 : 0 ≤ x) (i : Nat) : 0 ≤ x / Ti.p2 i ∧ x / Ti.p2 i ≤ x := ⟨Int.ediv_nonneg h0 (by have := Ti.p2_pos i; omega), Int.ediv_le_self _ h0⟩
theorem up_b {x : Int} (h0 : 0 ≤ x) {i B : Nat} (h : i ≤ B) : 0 ≤ x / Ti.p2 B * Ti.p2 i ∧ x / Ti.p2 B * Ti.p2 i ≤ x := by
  have hp := Ti.p2_pos i
  have hq := (half_b h0 B).1
  refine ⟨Int.mul_nonneg hq (by omega), Int.le_trans (Int.mul_le_mul_of_nonneg_left (Ti.p2_mono h) hq) (Int.ediv_mul_le _ (by have := Ti.p2_pos B; omega))⟩
theorem up_step (x : Int) (i B : Nat) : x / Ti.p2 B * Ti.p2 i * 2 = x / Ti.p2 B * Ti.p2 (i + 1) := by rw [Ti.p2_succ, Int.mul_assoc]
theorem up_end (x : Int) (B : Nat) : x / Ti.p2 B * Ti.p2 B = Ti.dn x B := by
  unfold Ti.dn
  have := Int.mul_ediv_add_emod x (Ti.p2 B)
  rw [Int.mul_comm]
  omega
theorem half_zero (x : Int) : x / Ti.p2 0 = x := by rw [Ti.p2_zero, Int.ediv_one]
theorem up_zero (y : Int) : y * Ti.p2 0 = y := by rw [Ti.p2_zero, Int.mul_one]
theorem vld_yes {e : Ez} (h : Ti.isT e.at_ = true) (hk : e.kd = 1 ∨ e.kd = 2 ∨ e.kd = 5) : vld e = true := by
  unfold vld isK
  rw [h]
  simp [hk]
theorem vld_at {e : Ez} (h : ¬ (0 ≤ e.at_ ∧ e.at_ ≤ 4611686018427387904)) : ¬ vld e = true := fun hv => by
  unfold vld at hv
  simp only [Bool.and_eq_true] at hv
  exact h (Ti.isT_yes hv.1)
theorem vld_kd {e : Ez} (h : ¬ e.kd = 1) (h' : ¬ e.kd = 2) (h'' : ¬ e.kd = 5) : ¬ vld e = true := fun hv => by
  unfold vld isK at hv
  simp [h, h', h''] at hv
set_option maxHeartbeats 8000000 in
set_option maxRecDepth 20000 in
theorem rstretches_ {w : World} {v : Value} {L : List Ez} (h : Ev w v L) (hl : L.length ≤ 2000) (B : Nat) (hB : B ≤ 62) :
    Calls Try.prog 19 #[v, .int .i64 (B : Int)] w fun r w' => ∃ (S : List Q4) (v' : Value), r = .returned v' ∧ w'.ownsRow w.heap.size 49 4 v' S.length (S.flatMap row4) ∧ Tells (pL B L) S ∧ Touch [] w w' := by
  have H := hid h
  obtain ⟨a0, c, rfl, hc, hrow⟩ := h
  clear hrow
  obtain ⟨n, hn⟩ : ∃ n, L.length = n := ⟨_, rfl⟩
  have HN := hid hn
  rw [hn] at hl hc H ⊢
  clear hn
  have HM : Hid ((w.alloc (.cells #[] 49)).ownsRow w.heap.size 49 4 (.slice (some ⟨w.heap.size, 0, none⟩) 0 0) 0 []) := World.ownsRow_made (e := 49) (size := 4) w #[] 0 (Nat.le_refl _) (by unfold maxLen; omega) rfl
  go_enter Try.func19, Try.ntmps19
  go_wp2_with fail
  go_loopw [5, 16] (fun o i wr => ∃ (j gg cap : Nat) (S : List Q4), i = .int .i64 j ∧ o = .slice (some ⟨gg, 0, none⟩) S.length cap ∧ j ≤ n ∧ S.length ≤ j ∧ Hid (wr.ownsRow w.heap.size 49 4 (.slice (some ⟨gg, 0, none⟩) S.length cap) S.length (S.flatMap row4)) ∧ Hid (Tells (pL B (L.take j)) S) ∧ Hid (Touch [] w wr)) (fun _ i _ => n - (intOf i).toNat)
  case atStart => exact ⟨0, _, 0, [], rfl, rfl, Nat.zero_le _, Nat.zero_le _, HM, hid ⟨List.Pairwise.nil, fun q => ⟨fun e => by simp at e, fun e => by cases e⟩⟩, hid ((Touch.refl [] w).alloc _)⟩
  case round =>
    obtain ⟨j, gg, cap, S, rfl, rfl, hj, hsj, HO, HTL, HT⟩ := hrel
    by_cases hlt : j < n
    · obtain ⟨e, he⟩ : ∃ e, L[j]? = some e := ⟨_, List.getElem?_eq_getElem (by rw [HN.out]; exact hlt)⟩
      have hpi := Pi.all B (L.take j)
      rw [List.length_take, HN.out, Nat.min_eq_left hj] at hpi
      have HPI := hid hpi
      clear hpi
      have HSN := hid (show pL B (L.take (j + 1)) = pS B (pL B (L.take j)) e by rw [List.take_add_one, he]; exact pL_snoc _ _ _)
      obtain ⟨gb, off, rfl, hg, c0, c1, c2, c3, c4, c5, c6, c7, c8, c9, c10, c11, c12⟩ := (H.out.keep HT.out).at_ he
      clear he
      generalize pL B (L.take j) = g at *
      have B1 : Ib (wr.alloc (.cells #[.int .i64 e.at_, .int .i64 e.kd, .int .i64 e.cl, .int .i64 e.ca, .int .i64 e.ru, .int .i64 e.ge, .int .i64 e.ho, .int .u16 e.sp, .string e.nm, .int .i64 e.va, .int .i64 e.fk, .int .i64 e.fc, .int .i64 e.fr] 82)) wr.heap.size e := Ib.new wr e 82
      have t1 : Touch [] wr (wr.alloc (.cells #[.int .i64 e.at_, .int .i64 e.kd, .int .i64 e.cl, .int .i64 e.ca, .int .i64 e.ru, .int .i64 e.ge, .int .i64 e.ho, .int .u16 e.sp, .string e.nm, .int .i64 e.va, .int .i64 e.fk, .int .i64 e.fc, .int .i64 e.fr] 82)) := (Touch.refl [] wr).alloc _
      have HO1 := hid (own_touch HO.out t1 (fun _ _ h => by cases h))
      have HT1 := hid (HT.out.trans' t1)
      have hgl := (HO.out.lt gg rfl).2
      clear t1 HO HT
      go_upto_region 5 with fail
      clear c0 c1 c2 c3 c4 c5 c6 c7 c8 c9 c10 c11 c12 hg
      generalize wr.alloc (.cells #[.int .i64 e.at_, .int .i64 e.kd, .int .i64 e.cl, .int .i64 e.ca, .int .i64 e.ru, .int .i64 e.ge, .int .i64 e.ho, .int .u16 e.sp, .string e.nm, .int .i64 e.va, .int .i64 e.fk, .int .i64 e.fc, .int .i64 e.fr] 82) = W1 at *
      have HEB := hid hgl
      clear hgl
      generalize wr.heap.size = eb at *
      obtain ⟨c0, c1, c2, c3, c4, c5, c6, c7, c8, c9, c10, c11, c12⟩ := B1
      have HIB := hid (show Ib W1 eb e from ⟨c0, c1, c2, c3, c4, c5, c6, c7, c8, c9, c10, c11, c12⟩)
      have HEW := hid (show eb < W1.heap.size from cell_lt c0)
      by_cases h1 : 0 ≤ e.at_
      · by_cases h2 : e.at_ ≤ 4611686018427387904
        · by_cases hk1 : e.kd = 1
          · have hk := hk1
            clear hk1
            have HK := hid hk
            rw [hk] at c1
            clear hk
            have HV := hid (vld_yes (e := e) (by simp [Ti.isT]; omega) (by have := HK.out; omega))
            have HE := hid (up_end e.at_ B)
            have hx0 := h1
            have hx1 := h2
            have hn0 : ¬ e.at_ < 0 := by omega
            have hn1 : ¬ 4611686018427387904 < e.at_ := by omega
            clear h1 h2
            go_upto_region 6 with fail
            generalize hx : e.at_ = x at *
            go_wp2_with fail
            clear c0 c1 c2 c3 c4 c5 c6 c7 c8 c9 c10 c11 c12
            go_loopw [8, 9] (fun y i wr2 => ∃ (k : Nat) (z : Int), y = .int .i64 z ∧ i = .int .i64 k ∧ k ≤ B ∧ Hid (z = x / Ti.p2 k) ∧ wr2 = W1) (fun _ i _ => B - (intOf i).toNat)
            case atStart => exact ⟨0, x, rfl, rfl, Nat.zero_le _, hid (half_zero x).symm, rfl⟩
            case round =>
              obtain ⟨k2, z, rfl, rfl, hk2, HZ, hwr⟩ := hrel
              subst wr
              have hzb := half_b hx0 k2
              rw [← HZ.out] at hzb
              obtain ⟨z0, z1⟩ := hzb
              by_cases hb2 : k2 < B
              · have HZN := hid (half_step hx0 k2)
                rw [← HZ.out] at HZN
                have ht : z.tdiv 2 = z / 2 := Int.tdiv_eq_ediv_of_nonneg z0
                go_wp2_with fail
                go_roundw
                case rel => exact ⟨k2 + 1, z / 2, congrArg _ (by omega), congrArg _ (by omega), by omega, HZN, by first | rfl | trivial⟩
                case measure => first | (simp [intOf]; done) | (simp [intOf]; omega)
              · obtain rfl : k2 = B := by omega
                go_wp2_with fail
                go_loopw [8, 10] (fun y i wr2 => ∃ (k : Nat) (z : Int), y = .int .i64 z ∧ i = .int .i64 k ∧ k ≤ k2 ∧ Hid (z = x / Ti.p2 k2 * Ti.p2 k) ∧ wr2 = W1) (fun _ i _ => k2 - (intOf i).toNat)
                case atStart => exact ⟨0, z, rfl, rfl, Nat.zero_le _, hid (HZ.out.trans (up_zero _).symm), rfl⟩
                case round =>
                  clear z0 z1 HZ
                  obtain ⟨k3, z, rfl, rfl, hk3, HZ, hwr⟩ := hrel
                  subst wr
                  have hzb := up_b hx0 hk3
                  rw [← HZ.out] at hzb
                  obtain ⟨z0, z1⟩ := hzb
                  by_cases hb3 : k3 < k2
                  · have HZN := hid (up_step x k3 k2)
                    rw [← HZ.out] at HZN
                    have hzc := up_b hx0 (show k3 + 1 ≤ k2 by omega)
                    rw [← HZN.out] at hzc
                    obtain ⟨z2, z3⟩ := hzc
                    go_wp2_with fail
                    go_roundw
                    case rel => exact ⟨k3 + 1, z * 2, rfl, congrArg _ (by omega), by omega, HZN, by first | rfl | trivial⟩
                    case measure => first | (simp [intOf]; done) | (simp [intOf]; omega)
                  · obtain rfl : k3 = k2 := by omega
                    have HZE := hid (HZ.out.trans HE.out)
                    clear HZ HE
                    go_wp2_with fail
                    have HD := hid (show dk k3 e = z from by unfold dk; rw [hx, HZE.out])
                    clear HZE
                    go_loopw [11] (fun i wr2 => ∃ a : Nat, i = .int .i64 a ∧ Hid (Plc S z a) ∧ wr2 = W1) (fun i _ => S.length - (intOf i).toNat)
                    case atStart => exact ⟨0, rfl, hid ⟨Nat.zero_le _, fun j q hj _ => by omega⟩, rfl⟩
                    case round =>
                      obtain ⟨a, rfl, HPL, hwr⟩ := hrel
                      subst wr
                      have hal := HPL.out.le
                      by_cases hla : a < S.length
                      · obtain ⟨q, hq⟩ : ∃ q, S[a]? = some q := ⟨_, List.getElem?_eq_getElem hla⟩
                        obtain ⟨d0, d1, d2, d3⟩ := q4_cells HO1.out hq
                        by_cases hqz : q.fr < z
                        · have HQ := hid hq
                          clear hq
                          go_wp2_with fail
                          go_roundw
                          case rel => exact ⟨a + 1, congrArg _ (by omega), hid ⟨by omega, fun j q' hj' hq' => by rcases Nat.lt_or_ge j a with h | h; exact HPL.out.lo j q' h hq'; have hja : j = a := (by omega); subst hja; rw [HQ.out] at hq'; cases hq'; exact hqz⟩, by first | rfl | trivial⟩
                          case measure => first | (simp [intOf]; done) | (simp [intOf]; omega)
                        · by_cases hqe : q.fr = z
                          · have HQ := hid hq
                            have HB := hid (HPI.out.b _ _ ((HTL.out.mem q).1 (List.mem_of_getElem? hq)))
                            clear hq
                            obtain ⟨b1, b2, b3, b4, b5, b6⟩ := HB.out
                            simp only [Q4.at_] at b1 b2 b3 b4 b5 b6
                            clear HB
                            have HZQ := hid hqe
                            have HEZ := hid hqe
                            rw [hqe] at d0
                            clear hqe hqz
                            obtain ⟨c0, c1, c2, c3, c4, c5, c6, c7, c8, c9, c10, c11, c12⟩ := HIB.out
                            rw [HK.out] at c1
                            have ff := own_frozen HO1.out (a * 4 + 1)
                            go_wp2_with fail
                            go_roundw
                            case rel => exact ⟨j + 1, gg, cap, S.set a (bump q 1), rfl, by rw [List.length_set], by omega, by rw [List.length_set]; omega, hid (by rw [List.length_set]; exact q4_set1 (j := 1) HO1.out HQ.out (by decide) rfl), hid (by rw [HSN.out, pS_upd HV.out, HD.out, HK.out]; exact put_here HTL.out HQ.out HZQ.out), hid (HT1.out.trans ((Touch.refl [gg] _).setCell (Or.inl (by simp)) _) (fun i hi => Or.inr (by simp at hi; have := Un.owns_base HO1.out; omega)))⟩
                            case measure => first | (simp [intOf]; done) | (simp [intOf]; omega)
                          · have HQ := hid hq
                            clear hq
                            have hqn : z < q.fr := by omega
                            have hqb : (q.fr == z) = false := by simp; omega
                            have hqb2 : (q.fr != z) = true := by simp; omega
                            clear hqe hqz
                            have HNW := hid (show Tells (upd g z 1) (S.take a ++ bump ⟨z, 0, 0, 0⟩ 1 :: S.drop a) from put_new HPI.out.z HTL.out HPL.out (fun q' hq' => by rw [HQ.out] at hq'; cases hq'; exact hqn))
                            have HW2 := hid (Rs.new W1 #[.int .i64 0, .int .i64 0, .int .i64 0, .int .i64 0] 49 4 rfl)
                            have tx : Touch [] W1 (W1.alloc (.cells #[.int .i64 0, .int .i64 0, .int .i64 0, .int .i64 0] 49)) := (Touch.refl [] W1).alloc _
                            have HO2 := hid (own_touch HO1.out tx (fun _ _ h => by cases h))
                            have HT2 := hid (HT1.out.trans' tx)
                            have HSZ := hid (show w.heap.size ≤ (W1.alloc (.cells #[.int .i64 0, .int .i64 0, .int .i64 0, .int .i64 0] 49)).heap.size from HT2.out.size)
                            clear tx
                            go_upto_region 20 with (at_builtin; refine wpList_append_rs rfl _ _ 46 49 rfl (q4v zq) 4 32 info49 Try.underlying46 rfl (by decide) w.heap.size (.slice (some ⟨gg, 0, none⟩) S.length cap) S.length (S.flatMap row4) rfl HO2.out (.slice (some ⟨W1.heap.size, 0, none⟩) 1 1) 1 (row4 zq) rfl HW2.out (row4_one _) (by unfold maxLen; omega) (by omega) HSZ.out ?_; intro v5 w5 o5 g5 p5; have HT5 := hid (touch_grown HT2.out g5 HO2.out (Nat.le_refl _)); have tg := (Touch.refl [gg] _).grown g5 (fun b hb => Or.inl (by simp [Value.ownBlock] at hb; simp; omega)); have HIB5 := hid (ib_keep (HIB.out.touch ((Touch.refl [] W1).alloc (.cells #[.int .i64 0, .int .i64 0, .int .i64 0, .int .i64 0] 49))) tg (by simp; have := HEB.out; omega)); obtain ⟨g5', c5', e5, _, _⟩ := own_some o5 (by omega); subst e5; have HO5 := hid (show w5.ownsRow w.heap.size 49 4 (.slice (some ⟨g5', 0, none⟩) (S.length + 1) c5') (S.length + 1) ((mvd S S.length).flatMap row4) from by rw [mvd_start, List.flatMap_append]; exact o5); have hpg := p5; clear o5 g5 p5 tg)
                            clear d0 d1 d2 d3
                            have HNE := hid (show eb ≠ g5' from by rcases hpg with h | h <;> (simp [Value.ownBlock] at h; have := HEB.out; have := HEW.out; omega))
                            clear hpg HO2 HW2 HSZ HO1 HT1 HT2 HIB
                            go_wp2_with fail
                            go_loopw [12] (fun y wr2 => ∃ i : Nat, y = .int .i64 i ∧ a ≤ i ∧ i ≤ S.length ∧ Hid (wr2.ownsRow w.heap.size 49 4 (.slice (some ⟨g5', 0, none⟩) (S.length + 1) c5') (S.length + 1) ((mvd S i).flatMap row4)) ∧ Hid (Touch [] w wr2) ∧ Hid (Ib wr2 eb e)) (fun y _ => (intOf y).toNat)
                            case atStart => exact ⟨S.length, congrArg _ (by omega), hal, Nat.le_refl _, HO5, HT5, HIB5⟩
                            case round =>
                              clear HO5 HT5 HIB5
                              obtain ⟨i, rfl, hai, hil, HO6, HT6, HIB6⟩ := hrel
                              have HBS := hid (Un.owns_base HO6.out)
                              by_cases hi6 : a < i
                              · obtain ⟨i', rfl⟩ : ∃ i', i = i' + 1 := ⟨i - 1, by omega⟩
                                obtain ⟨q', hq'⟩ : ∃ q', S[i']? = some q' := ⟨_, List.getElem?_eq_getElem (by omega)⟩
                                obtain ⟨q2, hq2⟩ : ∃ q2, (mvd S (i' + 1))[i' + 1]? = some q2 := ⟨_, List.getElem?_eq_getElem (by rw [mvd_len hil]; omega)⟩
                                obtain ⟨m0, m1, m2, m3⟩ := q4_cells HO6.out ((mvd_get hil (Nat.lt_succ_self i')).trans hq')
                                obtain ⟨n0, n1, n2, n3⟩ := q4_cells HO6.out hq2
                                have f0 := own_frozen HO6.out ((i' + 1) * 4)
                                have f1 := own_frozen HO6.out ((i' + 1) * 4 + 1)
                                have f2 := own_frozen HO6.out ((i' + 1) * 4 + 2)
                                have f3 := own_frozen HO6.out ((i' + 1) * 4 + 3)
                                have HPUT := hid (q4_put HO6.out hq2 q')
                                rw [mvd_step hil hq'] at HPUT
                                have hci : ((i' + 1 : Nat) : Int) - 1 = (i' : Int) := by omega
                                clear hq' hq2
                                go_wp2_with fail
                                go_roundw
                                case rel => exact ⟨i', congrArg _ (by omega), by omega, by omega, HPUT, hid (HT6.out.trans ((((((Touch.refl [g5'] _).setCell (Or.inl (by simp)) _).setCell (Or.inl (by simp)) _).setCell (Or.inl (by simp)) _).setCell (Or.inl (by simp)) _)) (fun b hb => Or.inr (by simp at hb; have := HBS.out; omega))), hid (ib_keep HIB6.out ((((((Touch.refl [g5'] _).setCell (Or.inl (by simp)) _).setCell (Or.inl (by simp)) _).setCell (Or.inl (by simp)) _).setCell (Or.inl (by simp)) _)) (by simp; exact HNE.out))⟩
                                case measure => first | (simp [intOf]; done) | (simp [intOf]; omega)
                              · obtain rfl : i = a := by omega
                                obtain ⟨q2, hq2⟩ : ∃ q2, (mvd S i)[i]? = some q2 := ⟨_, List.getElem?_eq_getElem (by rw [mvd_len hil]; omega)⟩
                                obtain ⟨n0, n1, n2, n3⟩ := q4_cells HO6.out hq2
                                have f0 := own_frozen HO6.out (i * 4)
                                have f1 := own_frozen HO6.out (i * 4 + 1)
                                have f2 := own_frozen HO6.out (i * 4 + 2)
                                have f3 := own_frozen HO6.out (i * 4 + 3)
                                have hput := q4_put HO6.out hq2 ⟨z, 0, 0, 0⟩
                                rw [mvd_end hil] at hput
                                have HPUT := hid hput
                                have htt : Touch [g5'] wr ((((wr.setCell ⟨g5', i * 4, none⟩ (.int .i64 z)).setCell ⟨g5', i * 4 + 1, none⟩ (.int .i64 0)).setCell ⟨g5', i * 4 + 2, none⟩ (.int .i64 0)).setCell ⟨g5', i * 4 + 3, none⟩ (.int .i64 0)) := (((((Touch.refl [g5'] _).setCell (Or.inl (by simp)) _).setCell (Or.inl (by simp)) _).setCell (Or.inl (by simp)) _).setCell (Or.inl (by simp)) _)
                                have HT7 := hid (HT6.out.trans htt (fun b hb => Or.inr (by simp at hb; have := HBS.out; omega)))
                                have HIB7 := hid (ib_keep HIB6.out htt (by simp; exact HNE.out))
                                clear hq2 hput htt
                                go_upto_region 25 with fail
                                clear n0 n1 n2 n3 f0 f1 f2 f3
                                generalize (((wr.setCell ⟨g5', i * 4, none⟩ (.int .i64 z)).setCell ⟨g5', i * 4 + 1, none⟩ (.int .i64 0)).setCell ⟨g5', i * 4 + 2, none⟩ (.int .i64 0)).setCell ⟨g5', i * 4 + 3, none⟩ (.int .i64 0) = W7 at *
                                have hqa : (S.take i ++ (⟨z, 0, 0, 0⟩ : Q4) :: S.drop i)[i]? = some ⟨z, 0, 0, 0⟩ := by rw [List.getElem?_append_right (by rw [List.length_take]; omega), List.length_take, Nat.min_eq_left hil, Nat.sub_self]; rfl
                                obtain ⟨d0, d1, d2, d3⟩ := q4_cells HPUT.out hqa
                                simp only at d0 d1 d2 d3
                                have ff := own_frozen HPUT.out (i * 4 + 1)
                                have HFIN := hid (q4_set1 (j := 1) (y := bump ⟨z, 0, 0, 0⟩ 1) (v := .int .i64 1) HPUT.out hqa (by decide) rfl)
                                have hse : (S.take i ++ (⟨z, 0, 0, 0⟩ : Q4) :: S.drop i).set i (bump ⟨z, 0, 0, 0⟩ 1) = S.take i ++ bump ⟨z, 0, 0, 0⟩ 1 :: S.drop i := by rw [List.set_append_right _ _ (by rw [List.length_take]; omega), List.length_take, Nat.min_eq_left hil, Nat.sub_self]; rfl
                                rw [hse] at HFIN
                                have HSL := hid (show (S.take i ++ bump ⟨z, 0, 0, 0⟩ 1 :: S.drop i).length = S.length + 1 from by rw [List.length_append, List.length_cons, List.length_take, List.length_drop]; omega)
                                clear hqa hse
                                obtain ⟨c0, c1, c2, c3, c4, c5, c6, c7, c8, c9, c10, c11, c12⟩ := HIB7.out
                                rw [HK.out] at c1
                                go_wp2_with fail
                                go_roundw
                                case rel => exact ⟨j + 1, g5', c5', S.take i ++ bump ⟨z, 0, 0, 0⟩ 1 :: S.drop i, rfl, by rw [HSL.out], by omega, by rw [HSL.out]; omega, hid (by rw [HSL.out]; exact HFIN.out), hid (by rw [HSN.out, pS_upd HV.out, HD.out, HK.out]; exact HNW.out), hid (HT7.out.trans ((Touch.refl [g5'] _).setCell (Or.inl (by simp)) _) (fun b hb => Or.inr (by simp at hb; have := HBS.out; omega)))⟩
                                case measure => first | (simp [intOf]; done) | (simp [intOf]; omega)
                      · have hbe : ((a : Int) == (S.length : Int)) = true := by simp; omega
                        have HNW := hid (show Tells (upd g z 1) (S.take a ++ bump ⟨z, 0, 0, 0⟩ 1 :: S.drop a) from put_new HPI.out.z HTL.out HPL.out (fun q' hq' => by rw [List.getElem?_eq_none (by omega)] at hq'; cases hq'))
                        have HW2 := hid (Rs.new W1 #[.int .i64 0, .int .i64 0, .int .i64 0, .int .i64 0] 49 4 rfl)
                        have tx : Touch [] W1 (W1.alloc (.cells #[.int .i64 0, .int .i64 0, .int .i64 0, .int .i64 0] 49)) := (Touch.refl [] W1).alloc _
                        have HO2 := hid (own_touch HO1.out tx (fun _ _ h => by cases h))
                        have HT2 := hid (HT1.out.trans' tx)
                        have HSZ := hid (show w.heap.size ≤ (W1.alloc (.cells #[.int .i64 0, .int .i64 0, .int .i64 0, .int .i64 0] 49)).heap.size from HT2.out.size)
                        clear tx
                        go_upto_region 20 with (at_builtin; refine wpList_append_rs rfl _ _ 46 49 rfl (q4v zq) 4 32 info49 Try.underlying46 rfl (by decide) w.heap.size (.slice (some ⟨gg, 0, none⟩) S.length cap) S.length (S.flatMap row4) rfl HO2.out (.slice (some ⟨W1.heap.size, 0, none⟩) 1 1) 1 (row4 zq) rfl HW2.out (row4_one _) (by unfold maxLen; omega) (by omega) HSZ.out ?_; intro v5 w5 o5 g5 p5; have HT5 := hid (touch_grown HT2.out g5 HO2.out (Nat.le_refl _)); have tg := (Touch.refl [gg] _).grown g5 (fun b hb => Or.inl (by simp [Value.ownBlock] at hb; simp; omega)); have HIB5 := hid (ib_keep (HIB.out.touch ((Touch.refl [] W1).alloc (.cells #[.int .i64 0, .int .i64 0, .int .i64 0, .int .i64 0] 49))) tg (by simp; have := HEB.out; omega)); obtain ⟨g5', c5', e5, _, _⟩ := own_some o5 (by omega); subst e5; have HO5 := hid (show w5.ownsRow w.heap.size 49 4 (.slice (some ⟨g5', 0, none⟩) (S.length + 1) c5') (S.length + 1) ((mvd S S.length).flatMap row4) from by rw [mvd_start, List.flatMap_append]; exact o5); have hpg := p5; clear o5 g5 p5 tg)
                        have HNE := hid (show eb ≠ g5' from by rcases hpg with h | h <;> (simp [Value.ownBlock] at h; have := HEB.out; have := HEW.out; omega))
                        clear hpg HO2 HW2 HSZ HO1 HT1 HT2 HIB
                        go_wp2_with fail
                        go_loopw [12] (fun y wr2 => ∃ i : Nat, y = .int .i64 i ∧ a ≤ i ∧ i ≤ S.length ∧ Hid (wr2.ownsRow w.heap.size 49 4 (.slice (some ⟨g5', 0, none⟩) (S.length + 1) c5') (S.length + 1) ((mvd S i).flatMap row4)) ∧ Hid (Touch [] w wr2) ∧ Hid (Ib wr2 eb e)) (fun y _ => (intOf y).toNat)
                        case atStart => exact ⟨S.length, congrArg _ (by omega), hal, Nat.le_refl _, HO5, HT5, HIB5⟩
                        case round =>
                          clear HO5 HT5 HIB5
                          obtain ⟨i, rfl, hai, hil, HO6, HT6, HIB6⟩ := hrel
                          have HBS := hid (Un.owns_base HO6.out)
                          by_cases hi6 : a < i
                          · exfalso
                            omega
                          · obtain rfl : i = a := by omega
                            obtain ⟨q2, hq2⟩ : ∃ q2, (mvd S i)[i]? = some q2 := ⟨_, List.getElem?_eq_getElem (by rw [mvd_len hil]; omega)⟩
                            obtain ⟨n0, n1, n2, n3⟩ := q4_cells HO6.out hq2
                            have f0 := own_frozen HO6.out (i * 4)
                            have f1 := own_frozen HO6.out (i * 4 + 1)
                            have f2 := own_frozen HO6.out (i * 4 + 2)
                            have f3 := own_frozen HO6.out (i * 4 + 3)
                            have hput := q4_put HO6.out hq2 ⟨z, 0, 0, 0⟩
                            rw [mvd_end hil] at hput
                            have HPUT := hid hput
                            have htt : Touch [g5'] wr ((((wr.setCell ⟨g5', i * 4, none⟩ (.int .i64 z)).setCell ⟨g5', i * 4 + 1, none⟩ (.int .i64 0)).setCell ⟨g5', i * 4 + 2, none⟩ (.int .i64 0)).setCell ⟨g5', i * 4 + 3, none⟩ (.int .i64 0)) := (((((Touch.refl [g5'] _).setCell (Or.inl (by simp)) _).setCell (Or.inl (by simp)) _).setCell (Or.inl (by simp)) _).setCell (Or.inl (by simp)) _)
                            have HT7 := hid (HT6.out.trans htt (fun b hb => Or.inr (by simp at hb; have := HBS.out; omega)))
                            have HIB7 := hid (ib_keep HIB6.out htt (by simp; exact HNE.out))
                            clear hq2 hput htt
                            go_upto_region 25 with fail
                            clear n0 n1 n2 n3 f0 f1 f2 f3
                            generalize (((wr.setCell ⟨g5', i * 4, none⟩ (.int .i64 z)).setCell ⟨g5', i * 4 + 1, none⟩ (.int .i64 0)).setCell ⟨g5', i * 4 + 2, none⟩ (.int .i64 0)).setCell ⟨g5', i * 4 + 3, none⟩ (.int .i64 0) = W7 at *
                            have hqa : (S.take i ++ (⟨z, 0, 0, 0⟩ : Q4) :: S.drop i)[i]? = some ⟨z, 0, 0, 0⟩ := by rw [List.getElem?_append_right (by rw [List.length_take]; omega), List.length_take, Nat.min_eq_left hil, Nat.sub_self]; rfl
                            obtain ⟨d0, d1, d2, d3⟩ := q4_cells HPUT.out hqa
                            simp only at d0 d1 d2 d3
                            have ff := own_frozen HPUT.out (i * 4 + 1)
                            have HFIN := hid (q4_set1 (j := 1) (y := bump ⟨z, 0, 0, 0⟩ 1) (v := .int .i64 1) HPUT.out hqa (by decide) rfl)
                            have hse : (S.take i ++ (⟨z, 0, 0, 0⟩ : Q4) :: S.drop i).set i (bump ⟨z, 0, 0, 0⟩ 1) = S.take i ++ bump ⟨z, 0, 0, 0⟩ 1 :: S.drop i := by rw [List.set_append_right _ _ (by rw [List.length_take]; omega), List.length_take, Nat.min_eq_left hil, Nat.sub_self]; rfl
                            rw [hse] at HFIN
                            have HSL := hid (show (S.take i ++ bump ⟨z, 0, 0, 0⟩ 1 :: S.drop i).length = S.length + 1 from by rw [List.length_append, List.length_cons, List.length_take, List.length_drop]; omega)
                            clear hqa hse
                            obtain ⟨c0, c1, c2, c3, c4, c5, c6, c7, c8, c9, c10, c11, c12⟩ := HIB7.out
                            rw [HK.out] at c1
                            go_wp2_with fail
                            go_roundw
                            case rel => exact ⟨j + 1, g5', c5', S.take i ++ bump ⟨z, 0, 0, 0⟩ 1 :: S.drop i, rfl, by rw [HSL.out], by omega, by rw [HSL.out]; omega, hid (by rw [HSL.out]; exact HFIN.out), hid (by rw [HSN.out, pS_upd HV.out, HD.out, HK.out]; exact HNW.out), hid (HT7.out.trans ((Touch.refl [g5'] _).setCell (Or.inl (by simp)) _) (fun b hb => Or.inr (by simp at hb; have := HBS.out; omega)))⟩
                            case measure => first | (simp [intOf]; done) | (simp [intOf]; omega)
          · by_cases hk2 : e.kd = 2
            · have hk := hk2
              clear hk2
              have HK := hid hk
              rw [hk] at c1
              clear hk
              have HV := hid (vld_yes (e := e) (by simp [Ti.isT]; omega) (by have := HK.out; omega))
              have HE := hid (up_end e.at_ B)
              have hx0 := h1
              have hx1 := h2
              have hn0 : ¬ e.at_ < 0 := by omega
              have hn1 : ¬ 4611686018427387904 < e.at_ := by omega
              clear h1 h2
              go_upto_region 6 with fail
              generalize hx : e.at_ = x at *
              go_wp2_with fail
              clear c0 c1 c2 c3 c4 c5 c6 c7 c8 c9 c10 c11 c12
              go_loopw [8, 9] (fun y i wr2 => ∃ (k : Nat) (z : Int), y = .int .i64 z ∧ i = .int .i64 k ∧ k ≤ B ∧ Hid (z = x / Ti.p2 k) ∧ wr2 = W1) (fun _ i _ => B - (intOf i).toNat)
              case atStart => exact ⟨0, x, rfl, rfl, Nat.zero_le _, hid (half_zero x).symm, rfl⟩
              case round =>
                obtain ⟨k2, z, rfl, rfl, hk2, HZ, hwr⟩ := hrel
                subst wr
                have hzb := half_b hx0 k2
                rw [← HZ.out] at hzb
                obtain ⟨z0, z1⟩ := hzb
                by_cases hb2 : k2 < B
                · have HZN := hid (half_step hx0 k2)
                  rw [← HZ.out] at HZN
                  have ht : z.tdiv 2 = z / 2 := Int.tdiv_eq_ediv_of_nonneg z0
                  go_wp2_with fail
                  go_roundw
                  case rel => exact ⟨k2 + 1, z / 2, congrArg _ (by omega), congrArg _ (by omega), by omega, HZN, by first | rfl | trivial⟩
                  case measure => first | (simp [intOf]; done) | (simp [intOf]; omega)
                · obtain rfl : k2 = B := by omega
                  go_wp2_with fail
                  go_loopw [8, 10] (fun y i wr2 => ∃ (k : Nat) (z : Int), y = .int .i64 z ∧ i = .int .i64 k ∧ k ≤ k2 ∧ Hid (z = x / Ti.p2 k2 * Ti.p2 k) ∧ wr2 = W1) (fun _ i _ => k2 - (intOf i).toNat)
                  case atStart => exact ⟨0, z, rfl, rfl, Nat.zero_le _, hid (HZ.out.trans (up_zero _).symm), rfl⟩
                  case round =>
                    clear z0 z1 HZ
                    obtain ⟨k3, z, rfl, rfl, hk3, HZ, hwr⟩ := hrel
                    subst wr
                    have hzb := up_b hx0 hk3
                    rw [← HZ.out] at hzb
                    obtain ⟨z0, z1⟩ := hzb
                    by_cases hb3 : k3 < k2
                    · have HZN := hid (up_step x k3 k2)
                      rw [← HZ.out] at HZN
                      have hzc := up_b hx0 (show k3 + 1 ≤ k2 by omega)
                      rw [← HZN.out] at hzc
                      obtain ⟨z2, z3⟩ := hzc
                      go_wp2_with fail
                      go_roundw
                      case rel => exact ⟨k3 + 1, z * 2, rfl, congrArg _ (by omega), by omega, HZN, by first | rfl | trivial⟩
                      case measure => first | (simp [intOf]; done) | (simp [intOf]; omega)
                    · obtain rfl : k3 = k2 := by omega
                      have HZE := hid (HZ.out.trans HE.out)
                      clear HZ HE
                      go_wp2_with fail
                      have HD := hid (show dk k3 e = z from by unfold dk; rw [hx, HZE.out])
                      clear HZE
                      go_loopw [11] (fun i wr2 => ∃ a : Nat, i = .int .i64 a ∧ Hid (Plc S z a) ∧ wr2 = W1) (fun i _ => S.length - (intOf i).toNat)
                      case atStart => exact ⟨0, rfl, hid ⟨Nat.zero_le _, fun j q hj _ => by omega⟩, rfl⟩
                      case round =>
                        obtain ⟨a, rfl, HPL, hwr⟩ := hrel
                        subst wr
                        have hal := HPL.out.le
                        by_cases hla : a < S.length
                        · obtain ⟨q, hq⟩ : ∃ q, S[a]? = some q := ⟨_, List.getElem?_eq_getElem hla⟩
                          obtain ⟨d0, d1, d2, d3⟩ := q4_cells HO1.out hq
                          by_cases hqz : q.fr < z
                          · have HQ := hid hq
                            clear hq
                            go_wp2_with fail
                            go_roundw
                            case rel => exact ⟨a + 1, congrArg _ (by omega), hid ⟨by omega, fun j q' hj' hq' => by rcases Nat.lt_or_ge j a with h | h; exact HPL.out.lo j q' h hq'; have hja : j = a := (by omega); subst hja; rw [HQ.out] at hq'; cases hq'; exact hqz⟩, by first | rfl | trivial⟩
                            case measure => first | (simp [intOf]; done) | (simp [intOf]; omega)
                          · by_cases hqe : q.fr = z
                            · have HQ := hid hq
                              have HB := hid (HPI.out.b _ _ ((HTL.out.mem q).1 (List.mem_of_getElem? hq)))
                              clear hq
                              obtain ⟨b1, b2, b3, b4, b5, b6⟩ := HB.out
                              simp only [Q4.at_] at b1 b2 b3 b4 b5 b6
                              clear HB
                              have HZQ := hid hqe
                              have HEZ := hid hqe
                              rw [hqe] at d0
                              clear hqe hqz
                              obtain ⟨c0, c1, c2, c3, c4, c5, c6, c7, c8, c9, c10, c11, c12⟩ := HIB.out
                              rw [HK.out] at c1
                              have ff := own_frozen HO1.out (a * 4 + 2)
                              go_wp2_with fail
                              go_roundw
                              case rel => exact ⟨j + 1, gg, cap, S.set a (bump q 2), rfl, by rw [List.length_set], by omega, by rw [List.length_set]; omega, hid (by rw [List.length_set]; exact q4_set1 (j := 2) HO1.out HQ.out (by decide) rfl), hid (by rw [HSN.out, pS_upd HV.out, HD.out, HK.out]; exact put_here HTL.out HQ.out HZQ.out), hid (HT1.out.trans ((Touch.refl [gg] _).setCell (Or.inl (by simp)) _) (fun i hi => Or.inr (by simp at hi; have := Un.owns_base HO1.out; omega)))⟩
                              case measure => first | (simp [intOf]; done) | (simp [intOf]; omega)
                            · have HQ := hid hq
                              clear hq
                              have hqn : z < q.fr := by omega
                              have hqb : (q.fr == z) = false := by simp; omega
                              have hqb2 : (q.fr != z) = true := by simp; omega
                              clear hqe hqz
                              have HNW := hid (show Tells (upd g z 2) (S.take a ++ bump ⟨z, 0, 0, 0⟩ 2 :: S.drop a) from put_new HPI.out.z HTL.out HPL.out (fun q' hq' => by rw [HQ.out] at hq'; cases hq'; exact hqn))
                              have HW2 := hid (Rs.new W1 #[.int .i64 0, .int .i64 0, .int .i64 0, .int .i64 0] 49 4 rfl)
                              have tx : Touch [] W1 (W1.alloc (.cells #[.int .i64 0, .int .i64 0, .int .i64 0, .int .i64 0] 49)) := (Touch.refl [] W1).alloc _
                              have HO2 := hid (own_touch HO1.out tx (fun _ _ h => by cases h))
                              have HT2 := hid (HT1.out.trans' tx)
                              have HSZ := hid (show w.heap.size ≤ (W1.alloc (.cells #[.int .i64 0, .int .i64 0, .int .i64 0, .int .i64 0] 49)).heap.size from HT2.out.size)
                              clear tx
                              go_upto_region 20 with (at_builtin; refine wpList_append_rs rfl _ _ 46 49 rfl (q4v zq) 4 32 info49 Try.underlying46 rfl (by decide) w.heap.size (.slice (some ⟨gg, 0, none⟩) S.length cap) S.length (S.flatMap row4) rfl HO2.out (.slice (some ⟨W1.heap.size, 0, none⟩) 1 1) 1 (row4 zq) rfl HW2.out (row4_one _) (by unfold maxLen; omega) (by omega) HSZ.out ?_; intro v5 w5 o5 g5 p5; have HT5 := hid (touch_grown HT2.out g5 HO2.out (Nat.le_refl _)); have tg := (Touch.refl [gg] _).grown g5 (fun b hb => Or.inl (by simp [Value.ownBlock] at hb; simp; omega)); have HIB5 := hid (ib_keep (HIB.out.touch ((Touch.refl [] W1).alloc (.cells #[.int .i64 0, .int .i64 0, .int .i64 0, .int .i64 0] 49))) tg (by simp; have := HEB.out; omega)); obtain ⟨g5', c5', e5, _, _⟩ := own_some o5 (by omega); subst e5; have HO5 := hid (show w5.ownsRow w.heap.size 49 4 (.slice (some ⟨g5', 0, none⟩) (S.length + 1) c5') (S.length + 1) ((mvd S S.length).flatMap row4) from by rw [mvd_start, List.flatMap_append]; exact o5); have hpg := p5; clear o5 g5 p5 tg)
                              clear d0 d1 d2 d3
                              have HNE := hid (show eb ≠ g5' from by rcases hpg with h | h <;> (simp [Value.ownBlock] at h; have := HEB.out; have := HEW.out; omega))
                              clear hpg HO2 HW2 HSZ HO1 HT1 HT2 HIB
                              go_wp2_with fail
                              go_loopw [12] (fun y wr2 => ∃ i : Nat, y = .int .i64 i ∧ a ≤ i ∧ i ≤ S.length ∧ Hid (wr2.ownsRow w.heap.size 49 4 (.slice (some ⟨g5', 0, none⟩) (S.length + 1) c5') (S.length + 1) ((mvd S i).flatMap row4)) ∧ Hid (Touch [] w wr2) ∧ Hid (Ib wr2 eb e)) (fun y _ => (intOf y).toNat)
                              case atStart => exact ⟨S.length, congrArg _ (by omega), hal, Nat.le_refl _, HO5, HT5, HIB5⟩
                              case round =>
                                clear HO5 HT5 HIB5
                                obtain ⟨i, rfl, hai, hil, HO6, HT6, HIB6⟩ := hrel
                                have HBS := hid (Un.owns_base HO6.out)
                                by_cases hi6 : a < i
                                · obtain ⟨i', rfl⟩ : ∃ i', i = i' + 1 := ⟨i - 1, by omega⟩
                                  obtain ⟨q', hq'⟩ : ∃ q', S[i']? = some q' := ⟨_, List.getElem?_eq_getElem (by omega)⟩
                                  obtain ⟨q2, hq2⟩ : ∃ q2, (mvd S (i' + 1))[i' + 1]? = some q2 := ⟨_, List.getElem?_eq_getElem (by rw [mvd_len hil]; omega)⟩
                                  obtain ⟨m0, m1, m2, m3⟩ := q4_cells HO6.out ((mvd_get hil (Nat.lt_succ_self i')).trans hq')
                                  obtain ⟨n0, n1, n2, n3⟩ := q4_cells HO6.out hq2
                                  have f0 := own_frozen HO6.out ((i' + 1) * 4)
                                  have f1 := own_frozen HO6.out ((i' + 1) * 4 + 1)
                                  have f2 := own_frozen HO6.out ((i' + 1) * 4 + 2)
                                  have f3 := own_frozen HO6.out ((i' + 1) * 4 + 3)
                                  have HPUT := hid (q4_put HO6.out hq2 q')
                                  rw [mvd_step hil hq'] at HPUT
                                  have hci : ((i' + 1 : Nat) : Int) - 1 = (i' : Int) := by omega
                                  clear hq' hq2
                                  go_wp2_with fail
                                  go_roundw
                                  case rel => exact ⟨i', congrArg _ (by omega), by omega, by omega, HPUT, hid (HT6.out.trans ((((((Touch.refl [g5'] _).setCell (Or.inl (by simp)) _).setCell (Or.inl (by simp)) _).setCell (Or.inl (by simp)) _).setCell (Or.inl (by simp)) _)) (fun b hb => Or.inr (by simp at hb; have := HBS.out; omega))), hid (ib_keep HIB6.out ((((((Touch.refl [g5'] _).setCell (Or.inl (by simp)) _).setCell (Or.inl (by simp)) _).setCell (Or.inl (by simp)) _).setCell (Or.inl (by simp)) _)) (by simp; exact HNE.out))⟩
                                  case measure => first | (simp [intOf]; done) | (simp [intOf]; omega)
                                · obtain rfl : i = a := by omega
                                  obtain ⟨q2, hq2⟩ : ∃ q2, (mvd S i)[i]? = some q2 := ⟨_, List.getElem?_eq_getElem (by rw [mvd_len hil]; omega)⟩
                                  obtain ⟨n0, n1, n2, n3⟩ := q4_cells HO6.out hq2
                                  have f0 := own_frozen HO6.out (i * 4)
                                  have f1 := own_frozen HO6.out (i * 4 + 1)
                                  have f2 := own_frozen HO6.out (i * 4 + 2)
                                  have f3 := own_frozen HO6.out (i * 4 + 3)
                                  have hput := q4_put HO6.out hq2 ⟨z, 0, 0, 0⟩
                                  rw [mvd_end hil] at hput
                                  have HPUT := hid hput
                                  have htt : Touch [g5'] wr ((((wr.setCell ⟨g5', i * 4, none⟩ (.int .i64 z)).setCell ⟨g5', i * 4 + 1, none⟩ (.int .i64 0)).setCell ⟨g5', i * 4 + 2, none⟩ (.int .i64 0)).setCell ⟨g5', i * 4 + 3, none⟩ (.int .i64 0)) := (((((Touch.refl [g5'] _).setCell (Or.inl (by simp)) _).setCell (Or.inl (by simp)) _).setCell (Or.inl (by simp)) _).setCell (Or.inl (by simp)) _)
                                  have HT7 := hid (HT6.out.trans htt (fun b hb => Or.inr (by simp at hb; have := HBS.out; omega)))
                                  have HIB7 := hid (ib_keep HIB6.out htt (by simp; exact HNE.out))
                                  clear hq2 hput htt
                                  go_upto_region 25 with fail
                                  clear n0 n1 n2 n3 f0 f1 f2 f3
                                  generalize (((wr.setCell ⟨g5', i * 4, none⟩ (.int .i64 z)).setCell ⟨g5', i * 4 + 1, none⟩ (.int .i64 0)).setCell ⟨g5', i * 4 + 2, none⟩ (.int .i64 0)).setCell ⟨g5', i * 4 + 3, none⟩ (.int .i64 0) = W7 at *
                                  have hqa : (S.take i ++ (⟨z, 0, 0, 0⟩ : Q4) :: S.drop i)[i]? = some ⟨z, 0, 0, 0⟩ := by rw [List.getElem?_append_right (by rw [List.length_take]; omega), List.length_take, Nat.min_eq_left hil, Nat.sub_self]; rfl
                                  obtain ⟨d0, d1, d2, d3⟩ := q4_cells HPUT.out hqa
                                  simp only at d0 d1 d2 d3
                                  have ff := own_frozen HPUT.out (i * 4 + 2)
                                  have HFIN := hid (q4_set1 (j := 2) (y := bump ⟨z, 0, 0, 0⟩ 2) (v := .int .i64 1) HPUT.out hqa (by decide) rfl)
                                  have hse : (S.take i ++ (⟨z, 0, 0, 0⟩ : Q4) :: S.drop i).set i (bump ⟨z, 0, 0, 0⟩ 2) = S.take i ++ bump ⟨z, 0, 0, 0⟩ 2 :: S.drop i := by rw [List.set_append_right _ _ (by rw [List.length_take]; omega), List.length_take, Nat.min_eq_left hil, Nat.sub_self]; rfl
                                  rw [hse] at HFIN
                                  have HSL := hid (show (S.take i ++ bump ⟨z, 0, 0, 0⟩ 2 :: S.drop i).length = S.length + 1 from by rw [List.length_append, List.length_cons, List.length_take, List.length_drop]; omega)
                                  clear hqa hse
                                  obtain ⟨c0, c1, c2, c3, c4, c5, c6, c7, c8, c9, c10, c11, c12⟩ := HIB7.out
                                  rw [HK.out] at c1
                                  go_wp2_with fail
                                  go_roundw
                                  case rel => exact ⟨j + 1, g5', c5', S.take i ++ bump ⟨z, 0, 0, 0⟩ 2 :: S.drop i, rfl, by rw [HSL.out], by omega, by rw [HSL.out]; omega, hid (by rw [HSL.out]; exact HFIN.out), hid (by rw [HSN.out, pS_upd HV.out, HD.out, HK.out]; exact HNW.out), hid (HT7.out.trans ((Touch.refl [g5'] _).setCell (Or.inl (by simp)) _) (fun b hb => Or.inr (by simp at hb; have := HBS.out; omega)))⟩
                                  case measure => first | (simp [intOf]; done) | (simp [intOf]; omega)
                        · have hbe : ((a : Int) == (S.length : Int)) = true := by simp; omega
                          have HNW := hid (show Tells (upd g z 2) (S.take a ++ bump ⟨z, 0, 0, 0⟩ 2 :: S.drop a) from put_new HPI.out.z HTL.out HPL.out (fun q' hq' => by rw [List.getElem?_eq_none (by omega)] at hq'; cases hq'))
                          have HW2 := hid (Rs.new W1 #[.int .i64 0, .int .i64 0, .int .i64 0, .int .i64 0] 49 4 rfl)
                          have tx : Touch [] W1 (W1.alloc (.cells #[.int .i64 0, .int .i64 0, .int .i64 0, .int .i64 0] 49)) := (Touch.refl [] W1).alloc _
                          have HO2 := hid (own_touch HO1.out tx (fun _ _ h => by cases h))
                          have HT2 := hid (HT1.out.trans' tx)
                          have HSZ := hid (show w.heap.size ≤ (W1.alloc (.cells #[.int .i64 0, .int .i64 0, .int .i64 0, .int .i64 0] 49)).heap.size from HT2.out.size)
                          clear tx
                          go_upto_region 20 with (at_builtin; refine wpList_append_rs rfl _ _ 46 49 rfl (q4v zq) 4 32 info49 Try.underlying46 rfl (by decide) w.heap.size (.slice (some ⟨gg, 0, none⟩) S.length cap) S.length (S.flatMap row4) rfl HO2.out (.slice (some ⟨W1.heap.size, 0, none⟩) 1 1) 1 (row4 zq) rfl HW2.out (row4_one _) (by unfold maxLen; omega) (by omega) HSZ.out ?_; intro v5 w5 o5 g5 p5; have HT5 := hid (touch_grown HT2.out g5 HO2.out (Nat.le_refl _)); have tg := (Touch.refl [gg] _).grown g5 (fun b hb => Or.inl (by simp [Value.ownBlock] at hb; simp; omega)); have HIB5 := hid (ib_keep (HIB.out.touch ((Touch.refl [] W1).alloc (.cells #[.int .i64 0, .int .i64 0, .int .i64 0, .int .i64 0] 49))) tg (by simp; have := HEB.out; omega)); obtain ⟨g5', c5', e5, _, _⟩ := own_some o5 (by omega); subst e5; have HO5 := hid (show w5.ownsRow w.heap.size 49 4 (.slice (some ⟨g5', 0, none⟩) (S.length + 1) c5') (S.length + 1) ((mvd S S.length).flatMap row4) from by rw [mvd_start, List.flatMap_append]; exact o5); have hpg := p5; clear o5 g5 p5 tg)
                          have HNE := hid (show eb ≠ g5' from by rcases hpg with h | h <;> (simp [Value.ownBlock] at h; have := HEB.out; have := HEW.out; omega))
                          clear hpg HO2 HW2 HSZ HO1 HT1 HT2 HIB
                          go_wp2_with fail
                          go_loopw [12] (fun y wr2 => ∃ i : Nat, y = .int .i64 i ∧ a ≤ i ∧ i ≤ S.length ∧ Hid (wr2.ownsRow w.heap.size 49 4 (.slice (some ⟨g5', 0, none⟩) (S.length + 1) c5') (S.length + 1) ((mvd S i).flatMap row4)) ∧ Hid (Touch [] w wr2) ∧ Hid (Ib wr2 eb e)) (fun y _ => (intOf y).toNat)
                          case atStart => exact ⟨S.length, congrArg _ (by omega), hal, Nat.le_refl _, HO5, HT5, HIB5⟩
                          case round =>
                            clear HO5 HT5 HIB5
                            obtain ⟨i, rfl, hai, hil, HO6, HT6, HIB6⟩ := hrel
                            have HBS := hid (Un.owns_base HO6.out)
                            by_cases hi6 : a < i
                            · exfalso
                              omega
                            · obtain rfl : i = a := by omega
                              obtain ⟨q2, hq2⟩ : ∃ q2, (mvd S i)[i]? = some q2 := ⟨_, List.getElem?_eq_getElem (by rw [mvd_len hil]; omega)⟩
                              obtain ⟨n0, n1, n2, n3⟩ := q4_cells HO6.out hq2
                              have f0 := own_frozen HO6.out (i * 4)
                              have f1 := own_frozen HO6.out (i * 4 + 1)
                              have f2 := own_frozen HO6.out (i * 4 + 2)
                              have f3 := own_frozen HO6.out (i * 4 + 3)
                              have hput := q4_put HO6.out hq2 ⟨z, 0, 0, 0⟩
                              rw [mvd_end hil] at hput
                              have HPUT := hid hput
                              have htt : Touch [g5'] wr ((((wr.setCell ⟨g5', i * 4, none⟩ (.int .i64 z)).setCell ⟨g5', i * 4 + 1, none⟩ (.int .i64 0)).setCell ⟨g5', i * 4 + 2, none⟩ (.int .i64 0)).setCell ⟨g5', i * 4 + 3, none⟩ (.int .i64 0)) := (((((Touch.refl [g5'] _).setCell (Or.inl (by simp)) _).setCell (Or.inl (by simp)) _).setCell (Or.inl (by simp)) _).setCell (Or.inl (by simp)) _)
                              have HT7 := hid (HT6.out.trans htt (fun b hb => Or.inr (by simp at hb; have := HBS.out; omega)))
                              have HIB7 := hid (ib_keep HIB6.out htt (by simp; exact HNE.out))
                              clear hq2 hput htt
                              go_upto_region 25 with fail
                              clear n0 n1 n2 n3 f0 f1 f2 f3
                              generalize (((wr.setCell ⟨g5', i * 4, none⟩ (.int .i64 z)).setCell ⟨g5', i * 4 + 1, none⟩ (.int .i64 0)).setCell ⟨g5', i * 4 + 2, none⟩ (.int .i64 0)).setCell ⟨g5', i * 4 + 3, none⟩ (.int .i64 0) = W7 at *
                              have hqa : (S.take i ++ (⟨z, 0, 0, 0⟩ : Q4) :: S.drop i)[i]? = some ⟨z, 0, 0, 0⟩ := by rw [List.getElem?_append_right (by rw [List.length_take]; omega), List.length_take, Nat.min_eq_left hil, Nat.sub_self]; rfl
                              obtain ⟨d0, d1, d2, d3⟩ := q4_cells HPUT.out hqa
                              simp only at d0 d1 d2 d3
                              have ff := own_frozen HPUT.out (i * 4 + 2)
                              have HFIN := hid (q4_set1 (j := 2) (y := bump ⟨z, 0, 0, 0⟩ 2) (v := .int .i64 1) HPUT.out hqa (by decide) rfl)
                              have hse : (S.take i ++ (⟨z, 0, 0, 0⟩ : Q4) :: S.drop i).set i (bump ⟨z, 0, 0, 0⟩ 2) = S.take i ++ bump ⟨z, 0, 0, 0⟩ 2 :: S.drop i := by rw [List.set_append_right _ _ (by rw [List.length_take]; omega), List.length_take, Nat.min_eq_left hil, Nat.sub_self]; rfl
                              rw [hse] at HFIN
                              have HSL := hid (show (S.take i ++ bump ⟨z, 0, 0, 0⟩ 2 :: S.drop i).length = S.length + 1 from by rw [List.length_append, List.length_cons, List.length_take, List.length_drop]; omega)
                              clear hqa hse
                              obtain ⟨c0, c1, c2, c3, c4, c5, c6, c7, c8, c9, c10, c11, c12⟩ := HIB7.out
                              rw [HK.out] at c1
                              go_wp2_with fail
                              go_roundw
                              case rel => exact ⟨j + 1, g5', c5', S.take i ++ bump ⟨z, 0, 0, 0⟩ 2 :: S.drop i, rfl, by rw [HSL.out], by omega, by rw [HSL.out]; omega, hid (by rw [HSL.out]; exact HFIN.out), hid (by rw [HSN.out, pS_upd HV.out, HD.out, HK.out]; exact HNW.out), hid (HT7.out.trans ((Touch.refl [g5'] _).setCell (Or.inl (by simp)) _) (fun b hb => Or.inr (by simp at hb; have := HBS.out; omega)))⟩
                              case measure => first | (simp [intOf]; done) | (simp [intOf]; omega)
            · by_cases hk5 : e.kd = 5
              · have hk := hk5
                clear hk5
                have HK := hid hk
                rw [hk] at c1
                clear hk
                have HV := hid (vld_yes (e := e) (by simp [Ti.isT]; omega) (by have := HK.out; omega))
                have HE := hid (up_end e.at_ B)
                have hx0 := h1
                have hx1 := h2
                have hn0 : ¬ e.at_ < 0 := by omega
                have hn1 : ¬ 4611686018427387904 < e.at_ := by omega
                clear h1 h2
                go_upto_region 6 with fail
                generalize hx : e.at_ = x at *
                go_wp2_with fail
                clear c0 c1 c2 c3 c4 c5 c6 c7 c8 c9 c10 c11 c12
                go_loopw [8, 9] (fun y i wr2 => ∃ (k : Nat) (z : Int), y = .int .i64 z ∧ i = .int .i64 k ∧ k ≤ B ∧ Hid (z = x / Ti.p2 k) ∧ wr2 = W1) (fun _ i _ => B - (intOf i).toNat)
                case atStart => exact ⟨0, x, rfl, rfl, Nat.zero_le _, hid (half_zero x).symm, rfl⟩
                case round =>
                  obtain ⟨k2, z, rfl, rfl, hk2, HZ, hwr⟩ := hrel
                  subst wr
                  have hzb := half_b hx0 k2
                  rw [← HZ.out] at hzb
                  obtain ⟨z0, z1⟩ := hzb
                  by_cases hb2 : k2 < B
                  · have HZN := hid (half_step hx0 k2)
                    rw [← HZ.out] at HZN
                    have ht : z.tdiv 2 = z / 2 := Int.tdiv_eq_ediv_of_nonneg z0
                    go_wp2_with fail
                    go_roundw
                    case rel => exact ⟨k2 + 1, z / 2, congrArg _ (by omega), congrArg _ (by omega), by omega, HZN, by first | rfl | trivial⟩
                    case measure => first | (simp [intOf]; done) | (simp [intOf]; omega)
                  · obtain rfl : k2 = B := by omega
                    go_wp2_with fail
                    go_loopw [8, 10] (fun y i wr2 => ∃ (k : Nat) (z : Int), y = .int .i64 z ∧ i = .int .i64 k ∧ k ≤ k2 ∧ Hid (z = x / Ti.p2 k2 * Ti.p2 k) ∧ wr2 = W1) (fun _ i _ => k2 - (intOf i).toNat)
                    case atStart => exact ⟨0, z, rfl, rfl, Nat.zero_le _, hid (HZ.out.trans (up_zero _).symm), rfl⟩
                    case round =>
                      clear z0 z1 HZ
                      obtain ⟨k3, z, rfl, rfl, hk3, HZ, hwr⟩ := hrel
                      subst wr
                      have hzb := up_b hx0 hk3
                      rw [← HZ.out] at hzb
                      obtain ⟨z0, z1⟩ := hzb
                      by_cases hb3 : k3 < k2
                      · have HZN := hid (up_step x k3 k2)
                        rw [← HZ.out] at HZN
                        have hzc := up_b hx0 (show k3 + 1 ≤ k2 by omega)
                        rw [← HZN.out] at hzc
                        obtain ⟨z2, z3⟩ := hzc
                        go_wp2_with fail
                        go_roundw
                        case rel => exact ⟨k3 + 1, z * 2, rfl, congrArg _ (by omega), by omega, HZN, by first | rfl | trivial⟩
                        case measure => first | (simp [intOf]; done) | (simp [intOf]; omega)
                      · obtain rfl : k3 = k2 := by omega
                        have HZE := hid (HZ.out.trans HE.out)
                        clear HZ HE
                        go_wp2_with fail
                        have HD := hid (show dk k3 e = z from by unfold dk; rw [hx, HZE.out])
                        clear HZE
                        go_loopw [11] (fun i wr2 => ∃ a : Nat, i = .int .i64 a ∧ Hid (Plc S z a) ∧ wr2 = W1) (fun i _ => S.length - (intOf i).toNat)
                        case atStart => exact ⟨0, rfl, hid ⟨Nat.zero_le _, fun j q hj _ => by omega⟩, rfl⟩
                        case round =>
                          obtain ⟨a, rfl, HPL, hwr⟩ := hrel
                          subst wr
                          have hal := HPL.out.le
                          by_cases hla : a < S.length
                          · obtain ⟨q, hq⟩ : ∃ q, S[a]? = some q := ⟨_, List.getElem?_eq_getElem hla⟩
                            obtain ⟨d0, d1, d2, d3⟩ := q4_cells HO1.out hq
                            by_cases hqz : q.fr < z
                            · have HQ := hid hq
                              clear hq
                              go_wp2_with fail
                              go_roundw
                              case rel => exact ⟨a + 1, congrArg _ (by omega), hid ⟨by omega, fun j q' hj' hq' => by rcases Nat.lt_or_ge j a with h | h; exact HPL.out.lo j q' h hq'; have hja : j = a := (by omega); subst hja; rw [HQ.out] at hq'; cases hq'; exact hqz⟩, by first | rfl | trivial⟩
                              case measure => first | (simp [intOf]; done) | (simp [intOf]; omega)
                            · by_cases hqe : q.fr = z
                              · have HQ := hid hq
                                have HB := hid (HPI.out.b _ _ ((HTL.out.mem q).1 (List.mem_of_getElem? hq)))
                                clear hq
                                obtain ⟨b1, b2, b3, b4, b5, b6⟩ := HB.out
                                simp only [Q4.at_] at b1 b2 b3 b4 b5 b6
                                clear HB
                                have HZQ := hid hqe
                                have HEZ := hid hqe
                                rw [hqe] at d0
                                clear hqe hqz
                                obtain ⟨c0, c1, c2, c3, c4, c5, c6, c7, c8, c9, c10, c11, c12⟩ := HIB.out
                                rw [HK.out] at c1
                                have ff := own_frozen HO1.out (a * 4 + 3)
                                go_wp2_with fail
                                go_roundw
                                case rel => exact ⟨j + 1, gg, cap, S.set a (bump q 5), rfl, by rw [List.length_set], by omega, by rw [List.length_set]; omega, hid (by rw [List.length_set]; exact q4_set1 (j := 3) HO1.out HQ.out (by decide) rfl), hid (by rw [HSN.out, pS_upd HV.out, HD.out, HK.out]; exact put_here HTL.out HQ.out HZQ.out), hid (HT1.out.trans ((Touch.refl [gg] _).setCell (Or.inl (by simp)) _) (fun i hi => Or.inr (by simp at hi; have := Un.owns_base HO1.out; omega)))⟩
                                case measure => first | (simp [intOf]; done) | (simp [intOf]; omega)
                              · have HQ := hid hq
                                clear hq
                                have hqn : z < q.fr := by omega
                                have hqb : (q.fr == z) = false := by simp; omega
                                have hqb2 : (q.fr != z) = true := by simp; omega
                                clear hqe hqz
                                have HNW := hid (show Tells (upd g z 5) (S.take a ++ bump ⟨z, 0, 0, 0⟩ 5 :: S.drop a) from put_new HPI.out.z HTL.out HPL.out (fun q' hq' => by rw [HQ.out] at hq'; cases hq'; exact hqn))
                                have HW2 := hid (Rs.new W1 #[.int .i64 0, .int .i64 0, .int .i64 0, .int .i64 0] 49 4 rfl)
                                have tx : Touch [] W1 (W1.alloc (.cells #[.int .i64 0, .int .i64 0, .int .i64 0, .int .i64 0] 49)) := (Touch.refl [] W1).alloc _
                                have HO2 := hid (own_touch HO1.out tx (fun _ _ h => by cases h))
                                have HT2 := hid (HT1.out.trans' tx)
                                have HSZ := hid (show w.heap.size ≤ (W1.alloc (.cells #[.int .i64 0, .int .i64 0, .int .i64 0, .int .i64 0] 49)).heap.size from HT2.out.size)
                                clear tx
                                go_upto_region 20 with (at_builtin; refine wpList_append_rs rfl _ _ 46 49 rfl (q4v zq) 4 32 info49 Try.underlying46 rfl (by decide) w.heap.size (.slice (some ⟨gg, 0, none⟩) S.length cap) S.length (S.flatMap row4) rfl HO2.out (.slice (some ⟨W1.heap.size, 0, none⟩) 1 1) 1 (row4 zq) rfl HW2.out (row4_one _) (by unfold maxLen; omega) (by omega) HSZ.out ?_; intro v5 w5 o5 g5 p5; have HT5 := hid (touch_grown HT2.out g5 HO2.out (Nat.le_refl _)); have tg := (Touch.refl [gg] _).grown g5 (fun b hb => Or.inl (by simp [Value.ownBlock] at hb; simp; omega)); have HIB5 := hid (ib_keep (HIB.out.touch ((Touch.refl [] W1).alloc (.cells #[.int .i64 0, .int .i64 0, .int .i64 0, .int .i64 0] 49))) tg (by simp; have := HEB.out; omega)); obtain ⟨g5', c5', e5, _, _⟩ := own_some o5 (by omega); subst e5; have HO5 := hid (show w5.ownsRow w.heap.size 49 4 (.slice (some ⟨g5', 0, none⟩) (S.length + 1) c5') (S.length + 1) ((mvd S S.length).flatMap row4) from by rw [mvd_start, List.flatMap_append]; exact o5); have hpg := p5; clear o5 g5 p5 tg)
                                clear d0 d1 d2 d3
                                have HNE := hid (show eb ≠ g5' from by rcases hpg with h | h <;> (simp [Value.ownBlock] at h; have := HEB.out; have := HEW.out; omega))
                                clear hpg HO2 HW2 HSZ HO1 HT1 HT2 HIB
                                go_wp2_with fail
                                go_loopw [12] (fun y wr2 => ∃ i : Nat, y = .int .i64 i ∧ a ≤ i ∧ i ≤ S.length ∧ Hid (wr2.ownsRow w.heap.size 49 4 (.slice (some ⟨g5', 0, none⟩) (S.length + 1) c5') (S.length + 1) ((mvd S i).flatMap row4)) ∧ Hid (Touch [] w wr2) ∧ Hid (Ib wr2 eb e)) (fun y _ => (intOf y).toNat)
                                case atStart => exact ⟨S.length, congrArg _ (by omega), hal, Nat.le_refl _, HO5, HT5, HIB5⟩
                                case round =>
                                  clear HO5 HT5 HIB5
                                  obtain ⟨i, rfl, hai, hil, HO6, HT6, HIB6⟩ := hrel
                                  have HBS := hid (Un.owns_base HO6.out)
                                  by_cases hi6 : a < i
                                  · obtain ⟨i', rfl⟩ : ∃ i', i = i' + 1 := ⟨i - 1, by omega⟩
                                    obtain ⟨q', hq'⟩ : ∃ q', S[i']? = some q' := ⟨_, List.getElem?_eq_getElem (by omega)⟩
                                    obtain ⟨q2, hq2⟩ : ∃ q2, (mvd S (i' + 1))[i' + 1]? = some q2 := ⟨_, List.getElem?_eq_getElem (by rw [mvd_len hil]; omega)⟩
                                    obtain ⟨m0, m1, m2, m3⟩ := q4_cells HO6.out ((mvd_get hil (Nat.lt_succ_self i')).trans hq')
                                    obtain ⟨n0, n1, n2, n3⟩ := q4_cells HO6.out hq2
                                    have f0 := own_frozen HO6.out ((i' + 1) * 4)
                                    have f1 := own_frozen HO6.out ((i' + 1) * 4 + 1)
                                    have f2 := own_frozen HO6.out ((i' + 1) * 4 + 2)
                                    have f3 := own_frozen HO6.out ((i' + 1) * 4 + 3)
                                    have HPUT := hid (q4_put HO6.out hq2 q')
                                    rw [mvd_step hil hq'] at HPUT
                                    have hci : ((i' + 1 : Nat) : Int) - 1 = (i' : Int) := by omega
                                    clear hq' hq2
                                    go_wp2_with fail
                                    go_roundw
                                    case rel => exact ⟨i', congrArg _ (by omega), by omega, by omega, HPUT, hid (HT6.out.trans ((((((Touch.refl [g5'] _).setCell (Or.inl (by simp)) _).setCell (Or.inl (by simp)) _).setCell (Or.inl (by simp)) _).setCell (Or.inl (by simp)) _)) (fun b hb => Or.inr (by simp at hb; have := HBS.out; omega))), hid (ib_keep HIB6.out ((((((Touch.refl [g5'] _).setCell (Or.inl (by simp)) _).setCell (Or.inl (by simp)) _).setCell (Or.inl (by simp)) _).setCell (Or.inl (by simp)) _)) (by simp; exact HNE.out))⟩
                                    case measure => first | (simp [intOf]; done) | (simp [intOf]; omega)
                                  · obtain rfl : i = a := by omega
                                    obtain ⟨q2, hq2⟩ : ∃ q2, (mvd S i)[i]? = some q2 := ⟨_, List.getElem?_eq_getElem (by rw [mvd_len hil]; omega)⟩
                                    obtain ⟨n0, n1, n2, n3⟩ := q4_cells HO6.out hq2
                                    have f0 := own_frozen HO6.out (i * 4)
                                    have f1 := own_frozen HO6.out (i * 4 + 1)
                                    have f2 := own_frozen HO6.out (i * 4 + 2)
                                    have f3 := own_frozen HO6.out (i * 4 + 3)
                                    have hput := q4_put HO6.out hq2 ⟨z, 0, 0, 0⟩
                                    rw [mvd_end hil] at hput
                                    have HPUT := hid hput
                                    have htt : Touch [g5'] wr ((((wr.setCell ⟨g5', i * 4, none⟩ (.int .i64 z)).setCell ⟨g5', i * 4 + 1, none⟩ (.int .i64 0)).setCell ⟨g5', i * 4 + 2, none⟩ (.int .i64 0)).setCell ⟨g5', i * 4 + 3, none⟩ (.int .i64 0)) := (((((Touch.refl [g5'] _).setCell (Or.inl (by simp)) _).setCell (Or.inl (by simp)) _).setCell (Or.inl (by simp)) _).setCell (Or.inl (by simp)) _)
                                    have HT7 := hid (HT6.out.trans htt (fun b hb => Or.inr (by simp at hb; have := HBS.out; omega)))
                                    have HIB7 := hid (ib_keep HIB6.out htt (by simp; exact HNE.out))
                                    clear hq2 hput htt
                                    go_upto_region 25 with fail
                                    clear n0 n1 n2 n3 f0 f1 f2 f3
                                    generalize (((wr.setCell ⟨g5', i * 4, none⟩ (.int .i64 z)).setCell ⟨g5', i * 4 + 1, none⟩ (.int .i64 0)).setCell ⟨g5', i * 4 + 2, none⟩ (.int .i64 0)).setCell ⟨g5', i * 4 + 3, none⟩ (.int .i64 0) = W7 at *
                                    have hqa : (S.take i ++ (⟨z, 0, 0, 0⟩ : Q4) :: S.drop i)[i]? = some ⟨z, 0, 0, 0⟩ := by rw [List.getElem?_append_right (by rw [List.length_take]; omega), List.length_take, Nat.min_eq_left hil, Nat.sub_self]; rfl
                                    obtain ⟨d0, d1, d2, d3⟩ := q4_cells HPUT.out hqa
                                    simp only at d0 d1 d2 d3
                                    have ff := own_frozen HPUT.out (i * 4 + 3)
                                    have HFIN := hid (q4_set1 (j := 3) (y := bump ⟨z, 0, 0, 0⟩ 5) (v := .int .i64 1) HPUT.out hqa (by decide) rfl)
                                    have hse : (S.take i ++ (⟨z, 0, 0, 0⟩ : Q4) :: S.drop i).set i (bump ⟨z, 0, 0, 0⟩ 5) = S.take i ++ bump ⟨z, 0, 0, 0⟩ 5 :: S.drop i := by rw [List.set_append_right _ _ (by rw [List.length_take]; omega), List.length_take, Nat.min_eq_left hil, Nat.sub_self]; rfl
                                    rw [hse] at HFIN
                                    have HSL := hid (show (S.take i ++ bump ⟨z, 0, 0, 0⟩ 5 :: S.drop i).length = S.length + 1 from by rw [List.length_append, List.length_cons, List.length_take, List.length_drop]; omega)
                                    clear hqa hse
                                    obtain ⟨c0, c1, c2, c3, c4, c5, c6, c7, c8, c9, c10, c11, c12⟩ := HIB7.out
                                    rw [HK.out] at c1
                                    go_wp2_with fail
                                    go_roundw
                                    case rel => exact ⟨j + 1, g5', c5', S.take i ++ bump ⟨z, 0, 0, 0⟩ 5 :: S.drop i, rfl, by rw [HSL.out], by omega, by rw [HSL.out]; omega, hid (by rw [HSL.out]; exact HFIN.out), hid (by rw [HSN.out, pS_upd HV.out, HD.out, HK.out]; exact HNW.out), hid (HT7.out.trans ((Touch.refl [g5'] _).setCell (Or.inl (by simp)) _) (fun b hb => Or.inr (by simp at hb; have := HBS.out; omega)))⟩
                                    case measure => first | (simp [intOf]; done) | (simp [intOf]; omega)
                          · have hbe : ((a : Int) == (S.length : Int)) = true := by simp; omega
                            have HNW := hid (show Tells (upd g z 5) (S.take a ++ bump ⟨z, 0, 0, 0⟩ 5 :: S.drop a) from put_new HPI.out.z HTL.out HPL.out (fun q' hq' => by rw [List.getElem?_eq_none (by omega)] at hq'; cases hq'))
                            have HW2 := hid (Rs.new W1 #[.int .i64 0, .int .i64 0, .int .i64 0, .int .i64 0] 49 4 rfl)
                            have tx : Touch [] W1 (W1.alloc (.cells #[.int .i64 0, .int .i64 0, .int .i64 0, .int .i64 0] 49)) := (Touch.refl [] W1).alloc _
                            have HO2 := hid (own_touch HO1.out tx (fun _ _ h => by cases h))
                            have HT2 := hid (HT1.out.trans' tx)
                            have HSZ := hid (show w.heap.size ≤ (W1.alloc (.cells #[.int .i64 0, .int .i64 0, .int .i64 0, .int .i64 0] 49)).heap.size from HT2.out.size)
                            clear tx
                            go_upto_region 20 with (at_builtin; refine wpList_append_rs rfl _ _ 46 49 rfl (q4v zq) 4 32 info49 Try.underlying46 rfl (by decide) w.heap.size (.slice (some ⟨gg, 0, none⟩) S.length cap) S.length (S.flatMap row4) rfl HO2.out (.slice (some ⟨W1.heap.size, 0, none⟩) 1 1) 1 (row4 zq) rfl HW2.out (row4_one _) (by unfold maxLen; omega) (by omega) HSZ.out ?_; intro v5 w5 o5 g5 p5; have HT5 := hid (touch_grown HT2.out g5 HO2.out (Nat.le_refl _)); have tg := (Touch.refl [gg] _).grown g5 (fun b hb => Or.inl (by simp [Value.ownBlock] at hb; simp; omega)); have HIB5 := hid (ib_keep (HIB.out.touch ((Touch.refl [] W1).alloc (.cells #[.int .i64 0, .int .i64 0, .int .i64 0, .int .i64 0] 49))) tg (by simp; have := HEB.out; omega)); obtain ⟨g5', c5', e5, _, _⟩ := own_some o5 (by omega); subst e5; have HO5 := hid (show w5.ownsRow w.heap.size 49 4 (.slice (some ⟨g5', 0, none⟩) (S.length + 1) c5') (S.length + 1) ((mvd S S.length).flatMap row4) from by rw [mvd_start, List.flatMap_append]; exact o5); have hpg := p5; clear o5 g5 p5 tg)
                            have HNE := hid (show eb ≠ g5' from by rcases hpg with h | h <;> (simp [Value.ownBlock] at h; have := HEB.out; have := HEW.out; omega))
                            clear hpg HO2 HW2 HSZ HO1 HT1 HT2 HIB
                            go_wp2_with fail
                            go_loopw [12] (fun y wr2 => ∃ i : Nat, y = .int .i64 i ∧ a ≤ i ∧ i ≤ S.length ∧ Hid (wr2.ownsRow w.heap.size 49 4 (.slice (some ⟨g5', 0, none⟩) (S.length + 1) c5') (S.length + 1) ((mvd S i).flatMap row4)) ∧ Hid (Touch [] w wr2) ∧ Hid (Ib wr2 eb e)) (fun y _ => (intOf y).toNat)
                            case atStart => exact ⟨S.length, congrArg _ (by omega), hal, Nat.le_refl _, HO5, HT5, HIB5⟩
                            case round =>
                              clear HO5 HT5 HIB5
                              obtain ⟨i, rfl, hai, hil, HO6, HT6, HIB6⟩ := hrel
                              have HBS := hid (Un.owns_base HO6.out)
                              by_cases hi6 : a < i
                              · exfalso
                                omega
                              · obtain rfl : i = a := by omega
                                obtain ⟨q2, hq2⟩ : ∃ q2, (mvd S i)[i]? = some q2 := ⟨_, List.getElem?_eq_getElem (by rw [mvd_len hil]; omega)⟩
                                obtain ⟨n0, n1, n2, n3⟩ := q4_cells HO6.out hq2
                                have f0 := own_frozen HO6.out (i * 4)
                                have f1 := own_frozen HO6.out (i * 4 + 1)
                                have f2 := own_frozen HO6.out (i * 4 + 2)
                                have f3 := own_frozen HO6.out (i * 4 + 3)
                                have hput := q4_put HO6.out hq2 ⟨z, 0, 0, 0⟩
                                rw [mvd_end hil] at hput
                                have HPUT := hid hput
                                have htt : Touch [g5'] wr ((((wr.setCell ⟨g5', i * 4, none⟩ (.int .i64 z)).setCell ⟨g5', i * 4 + 1, none⟩ (.int .i64 0)).setCell ⟨g5', i * 4 + 2, none⟩ (.int .i64 0)).setCell ⟨g5', i * 4 + 3, none⟩ (.int .i64 0)) := (((((Touch.refl [g5'] _).setCell (Or.inl (by simp)) _).setCell (Or.inl (by simp)) _).setCell (Or.inl (by simp)) _).setCell (Or.inl (by simp)) _)
                                have HT7 := hid (HT6.out.trans htt (fun b hb => Or.inr (by simp at hb; have := HBS.out; omega)))
                                have HIB7 := hid (ib_keep HIB6.out htt (by simp; exact HNE.out))
                                clear hq2 hput htt
                                go_upto_region 25 with fail
                                clear n0 n1 n2 n3 f0 f1 f2 f3
                                generalize (((wr.setCell ⟨g5', i * 4, none⟩ (.int .i64 z)).setCell ⟨g5', i * 4 + 1, none⟩ (.int .i64 0)).setCell ⟨g5', i * 4 + 2, none⟩ (.int .i64 0)).setCell ⟨g5', i * 4 + 3, none⟩ (.int .i64 0) = W7 at *
                                have hqa : (S.take i ++ (⟨z, 0, 0, 0⟩ : Q4) :: S.drop i)[i]? = some ⟨z, 0, 0, 0⟩ := by rw [List.getElem?_append_right (by rw [List.length_take]; omega), List.length_take, Nat.min_eq_left hil, Nat.sub_self]; rfl
                                obtain ⟨d0, d1, d2, d3⟩ := q4_cells HPUT.out hqa
                                simp only at d0 d1 d2 d3
                                have ff := own_frozen HPUT.out (i * 4 + 3)
                                have HFIN := hid (q4_set1 (j := 3) (y := bump ⟨z, 0, 0, 0⟩ 5) (v := .int .i64 1) HPUT.out hqa (by decide) rfl)
                                have hse : (S.take i ++ (⟨z, 0, 0, 0⟩ : Q4) :: S.drop i).set i (bump ⟨z, 0, 0, 0⟩ 5) = S.take i ++ bump ⟨z, 0, 0, 0⟩ 5 :: S.drop i := by rw [List.set_append_right _ _ (by rw [List.length_take]; omega), List.length_take, Nat.min_eq_left hil, Nat.sub_self]; rfl
                                rw [hse] at HFIN
                                have HSL := hid (show (S.take i ++ bump ⟨z, 0, 0, 0⟩ 5 :: S.drop i).length = S.length + 1 from by rw [List.length_append, List.length_cons, List.length_take, List.length_drop]; omega)
                                clear hqa hse
                                obtain ⟨c0, c1, c2, c3, c4, c5, c6, c7, c8, c9, c10, c11, c12⟩ := HIB7.out
                                rw [HK.out] at c1
                                go_wp2_with fail
                                go_roundw
                                case rel => exact ⟨j + 1, g5', c5', S.take i ++ bump ⟨z, 0, 0, 0⟩ 5 :: S.drop i, rfl, by rw [HSL.out], by omega, by rw [HSL.out]; omega, hid (by rw [HSL.out]; exact HFIN.out), hid (by rw [HSN.out, pS_upd HV.out, HD.out, HK.out]; exact HNW.out), hid (HT7.out.trans ((Touch.refl [g5'] _).setCell (Or.inl (by simp)) _) (fun b hb => Or.inr (by simp at hb; have := HBS.out; omega)))⟩
                                case measure => first | (simp [intOf]; done) | (simp [intOf]; omega)
              · have HP := hid (pS_no (B := B) (g := g) (vld_kd hk1 hk2 hk5))
                have p1 : (e.kd != 1) = true := by simpa using hk1
                have p2 : (e.kd != 2) = true := by simpa using hk2
                have p5 : (e.kd != 5) = true := by simpa using hk5
                have q1 : (e.kd == 1) = false := by simpa using hk1
                have q2 : (e.kd == 2) = false := by simpa using hk2
                have q5 : (e.kd == 5) = false := by simpa using hk5
                have hn0 : ¬ e.at_ < 0 := by omega
                have hn1 : ¬ 4611686018427387904 < e.at_ := by omega
                clear h1 h2
                go_wp2_with fail
                go_roundw
                case rel => exact ⟨j + 1, gg, cap, S, rfl, rfl, by omega, by omega, HO1, hid (by rw [HSN.out, HP.out]; exact HTL.out), HT1⟩
                case measure => first | (simp [intOf]; done) | (simp [intOf]; omega)
        · have HP := hid (pS_no (B := B) (g := g) (vld_at (fun h => h2 h.2)))
          have hn0 : ¬ e.at_ < 0 := by omega
          have hn1 : 4611686018427387904 < e.at_ := by omega
          clear h1 h2
          go_wp2_with fail
          go_roundw
          case rel => exact ⟨j + 1, gg, cap, S, rfl, rfl, by omega, by omega, HO1, hid (by rw [HSN.out, HP.out]; exact HTL.out), HT1⟩
          case measure => first | (simp [intOf]; done) | (simp [intOf]; omega)
      · have HP := hid (pS_no (B := B) (g := g) (vld_at (fun h => h1 h.1)))
        have hn0 : e.at_ < 0 := by omega
        clear h1
        go_wp2_with fail
        go_roundw
        case rel => exact ⟨j + 1, gg, cap, S, rfl, rfl, by omega, by omega, HO1, hid (by rw [HSN.out, HP.out]; exact HTL.out), HT1⟩
        case measure => first | (simp [intOf]; done) | (simp [intOf]; omega)
    · obtain rfl : j = n := by omega
      rw [← HN.out, List.take_length] at HTL
      go_wp2_with fail
      go_ret
      exact ⟨S, _, rfl, HO.out, HTL.out, HT.out⟩
end Go.Proofs.Ytibgfkjhohgkhaa.Ty
