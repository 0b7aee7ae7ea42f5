/- The law ClientKeys, walked; the conditions: the table holds what the start lays, the program lies in memory. -/
import Derived.Test.YthakboiecdjgnaaDoorCky
namespace Go.Proofs.YthakboiecdjgnaaDoor.Ci
open Go.RowKit Go.Maps Go.ChangeMaps
set_option linter.unusedVariables false
theorem unl_pre : ∀ (l out : List K), ∃ t, Un.unl out l = out ++ t
  | [], out => ⟨[], by simp [Un.unl]⟩
  | y :: l, out => by
    rw [show y :: l = [y] ++ l from rfl, Un.unl_app]
    by_cases h : y ∈ out
    · rw [Un.unl_one_in out y h]
      exact unl_pre l out
    · rw [Un.unl_one_new out y h]
      obtain ⟨t, e⟩ := unl_pre l (out ++ [y])
      exact ⟨[y] ++ t, by rw [e, List.append_assoc]⟩
def preK (L : List Dz) (i : Nat) : List K := Un.unl [] (keysZ (L.take i))
theorem pre_all (L : List Dz) (i : Nat) : ∃ t, Un.unl [] (keysZ L) = preK L i ++ t := by
  have h : keysZ L = keysZ (L.take i) ++ keysZ (L.drop i) := by
    unfold keysZ
    rw [← List.map_append, ← List.filter_append, List.take_append_drop]
  rw [h, Un.unl_app]
  exact unl_pre _ _
theorem pre_no {L : List Dz} {i : Nat} (h : i < L.length) (hk : hasK L[i] = false) : preK L (i + 1) = preK L i := by
  unfold preK
  rw [keysZ_snoc L i h, hk]
  simp
theorem pre_in {L : List Dz} {i : Nat} (h : i < L.length) (hk : hasK L[i] = true) (hm : (L[i].sp, L[i].nm) ∈ preK L i) : preK L (i + 1) = preK L i := by
  unfold preK at hm ⊢
  rw [keysZ_snoc L i h, hk, if_pos rfl, Un.unl_app, Un.unl_one_in _ _ hm]
theorem pre_new {L : List Dz} {i : Nat} (h : i < L.length) (hk : hasK L[i] = true) (hm : ¬ (L[i].sp, L[i].nm) ∈ preK L i) : preK L (i + 1) = preK L i ++ [(L[i].sp, L[i].nm)] := by
  unfold preK at hm ⊢
  rw [keysZ_snoc L i h, hk, if_pos rfl, Un.unl_app, Un.unl_one_new _ _ hm]
theorem un_read {w : World} {v : Value} {U : List K} (h : Un.Sl w v U) : ∃ A C, v = .slice A U.length C ∧ ∀ w', Touch [] w w' → ∀ j (hj : j < U.length), ∃ g o, A = some ⟨g, o, none⟩ ∧ w'.cell? ⟨g, o + j * 2, none⟩ = some (.int .u16 U[j].1) ∧ w'.cell? ⟨g, o + j * 2 + 1, none⟩ = some (.string U[j].2) := by
  rcases h with ⟨rfl, a, c, rfl⟩ | ⟨b, off, c, rfl, R⟩
  · exact ⟨a, c, rfl, fun w' t j hj => by simp at hj⟩
  · exact ⟨_, c, rfl, fun w' t j hj => ⟨b, off, rfl, tcell t (R.at0 j hj), tcell t (R.at1 j hj)⟩⟩
set_option maxRecDepth 20000 in
set_option maxHeartbeats 4000000 in
theorem keysL_ (L : List Dz) (a : Option Addr) (c : Nat) (w : World) (hk : Kd w) (hs : Sl w a L) (hw : Oks L) (hl : L.length ≤ 2932031007400) :
    Calls Tryd.prog 4 #[.slice a L.length c] w fun e w' => e = .returned (.bool true) ∧ Touch [] w w' := by
  have HS : Hid (Kd w ∧ Sl w a L ∧ Oks L) := ⟨hk, hs, hw⟩
  have HC := hid (keys_ L a c w hk hs hw hl)
  have HA := hid (fun w' (t : Touch [] w w') => awake_ w' (hk.touch t))
  have HP := hid (pre_all L)
  have hml : (Un.unl [] (keysZ L)).length ≤ L.length := by
    have h1 := Un.unl_len [] (keysZ L)
    have h2 := keysZ_len L
    simp at h1
    omega
  have HE9 : Hid (Un.unl [] (keysZ L) = preK L L.length) := by show _ = _; unfold preK; rw [List.take_length]
  clear hk hs hw
  generalize Un.unl [] (keysZ L) = U at *
  go_enter Tryd.func4, Tryd.ntmps4
  go_wp2_with fail
  refine HC.out.mono ?_
  rintro e w1 ⟨v, rfl, u1, t1⟩
  obtain ⟨A, C, rfl, hr⟩ := un_read u1
  have T1 := hid t1
  obtain ⟨kf, hkf⟩ : ∃ kf : Nat → K, ∀ j (hj : j < U.length), kf j = U[j] := ⟨fun j => U.getD j (0, ⟨#[]⟩), fun j hj => by simp [List.getD, hj]⟩
  have HUR0 := hid (fun w' (t : Touch [] w1 w') j (hj : j < U.length) => show ∃ g o, A = some ⟨g, o, none⟩ ∧ w'.cell? ⟨g, o + j * 2, none⟩ = some (.int .u16 (kf j).1) ∧ w'.cell? ⟨g, o + j * 2 + 1, none⟩ = some (.string (kf j).2) by rw [hkf j hj]; exact hr w' t j hj)
  have HKF := hid hkf
  have HML : Hid (preK L L.length = U) := HE9.out.symm
  obtain ⟨m, hm⟩ : ∃ m, m = U.length := ⟨_, rfl⟩
  have HM := hid hm
  rw [← hm] at HUR0 hml ⊢
  have HUR := hid HUR0.out
  clear hm hr hkf u1 t1 HC HE9 HUR0
  go_wp2
  go_loopw [4, 5] (fun t i wr => ∃ (i' n : Nat), i = .int .i64 i' ∧ i' ≤ L.length ∧ n ≤ m ∧ t = .int .i64 n ∧ Hid (n = (preK L i').length) ∧ Hid (Touch [] w1 wr)) (fun _ i _ => L.length - (intOf i).toNat)
  case atStart => exact ⟨0, 0, rfl, Nat.zero_le _, Nat.zero_le _, rfl, by show (0 : Nat) = _; simp [preK, keysZ, Un.unl], Touch.refl [] _⟩
  case round =>
    obtain ⟨i, n, rfl, hi, hnm, rfl, HPL, HG⟩ := hrel
    obtain ⟨wo, hwo⟩ : ∃ wo, wo = wr := ⟨_, rfl⟩
    rw [← hwo] at HG ⊢
    clear hwo wr
    by_cases hlt : i < L.length
    · have hz : (i : Int) < (L.length : Int) := by omega
      obtain ⟨b, off, rfl, c0, c1, c2, c3, c4⟩ := (HS.out.2.1.touch (T1.out.trans' HG.out)) i hlt
      have HX0 := hid (fun hk => pre_no (L := L) (i := i) hlt hk)
      have HX : Hid (hasK L[i] = true → ((L[i].sp, L[i].nm) ∈ preK L i → preK L (i + 1) = preK L i) ∧ (¬ (L[i].sp, L[i].nm) ∈ preK L i → n < m ∧ kf n = (L[i].sp, L[i].nm) ∧ n + 1 = (preK L (i + 1)).length)) := fun hk => ⟨fun hm => pre_in hlt hk hm, fun hm => by
        have e1 := pre_new hlt hk hm
        obtain ⟨t, e2⟩ := HP.out (i + 1)
        have e3 := HPL.out
        have e4 : U = (preK L i ++ [(L[i].sp, L[i].nm)]) ++ t := by rw [← e1]; exact e2
        have hl2 : n < U.length := by rw [e4, List.length_append, List.length_append, ← e3]; simp; omega
        refine ⟨by rw [HM.out]; exact hl2, ?_, by rw [e1, List.length_append, ← e3]; rfl⟩
        rw [HKF.out n hl2]
        simp only [e4, e3]
        rw [List.getElem_append_left (by simp), List.getElem_append_right (by simp)]
        simp⟩
      have HPT : Hid (∀ j, j < n → (preK L i).take (j + 1) = (preK L i).take j ++ [((kf j).1, (kf j).2)]) := fun j hj => by
        have hj2 : j < (preK L i).length := by rw [← HPL.out]; exact hj
        rw [Un.take_snocK _ j hj2]
        obtain ⟨t, e2⟩ := HP.out i
        have hl2 : j < U.length := by rw [e2, List.length_append]; omega
        have : kf j = (preK L i)[j] := by rw [HKF.out j hl2]; simp only [e2]; rw [List.getElem_append_left hj2]
        rw [this]
      have HI := hid (hasK_iff L[i])
      obtain ⟨P, hP⟩ : ∃ P, P = preK L i := ⟨_, rfl⟩
      rw [← hP] at HX0 HX HPT HPL
      clear hP
      generalize hasK L[i] = hb at *
      generalize L[i].op = x0 at *
      generalize L[i].sp = x1 at *
      generalize L[i].nm = x2 at *
      generalize L[i].n = x3 at *
      generalize L[i].sl = x4 at *
      by_cases o1 : x0 = 1
      · subst o1
        have HXY := hid (HX.out (by rw [HI.out]; rfl))
        have HX := HXY
        clear HX0 HI HXY
        go_wp2
        go_loopw [6, 7] (fun q i wr => ∃ (j : Nat) (kn : Bool), i = .int .i64 j ∧ j ≤ n ∧ q = .bool kn ∧ Hid (kn = true ↔ (x1, x2) ∈ P.take j) ∧ Hid (Touch [] wo wr)) (fun _ i _ => n - (intOf i).toNat)
        case atStart => exact ⟨0, false, rfl, Nat.zero_le _, rfl, by show _ ↔ _; simp, Touch.refl [] _⟩
        case round =>
          obtain ⟨j, kn, rfl, hj, rfl, HK, HGW⟩ := hrel
          have d1 := tcell HGW.out c1
          have d2 := tcell HGW.out c2
          by_cases hjl : j < n
          · have jz : (j : Int) < (n : Int) := by omega
            have jz2 : (j : Int) < (m : Int) := by omega
            obtain ⟨g, go, rfl, e0, e1⟩ := HUR.out wr (HG.out.trans' HGW.out) j (by omega)
            have HT : Hid (P.take (j + 1) = P.take j ++ [((kf j).1, (kf j).2)]) := HPT.out j hjl
            generalize (kf j).1 = y1 at *
            generalize (kf j).2 = y2 at *
            cases kn with
            | true =>
              go_wp2
              go_quiet (fail)
              go_wp2
              go_roundw
              case rel => exact ⟨j + 1, true, by go_num, by omega, rfl, by show _ ↔ _; rw [HT.out, List.mem_append, List.mem_singleton]; exact ⟨fun _ => Or.inl (HK.out.1 (by trivial)), fun _ => rfl⟩, HGW.out.drewN _⟩
              case measure => simp [intOf]; omega
            | false =>
              have HN : Hid (¬ (x1, x2) ∈ P.take j) := fun h => by have := HK.out.2 h; cases this
              by_cases hx : y1 = x1
              · subst hx
                by_cases hy : y2.toList = x2.toList
                · have HE : Hid (((y1, x2) : K) = (y1, y2)) := (Un.keq _ _ _ _).2 ⟨rfl, hy.symm⟩
                  go_wp2
                  go_quiet (fail)
                  go_wp2
                  go_roundw
                  case rel => exact ⟨j + 1, true, by go_num, by omega, rfl, by show _ ↔ _; rw [HT.out, List.mem_append, List.mem_singleton]; exact ⟨fun _ => Or.inr HE.out, fun _ => rfl⟩, HGW.out.drewN _⟩
                  case measure => simp [intOf]; omega
                · have HE : Hid (¬ ((y1, x2) : K) = (y1, y2)) := fun h => hy ((Un.keq _ _ _ _).1 h).2.symm
                  go_wp2
                  go_quiet (fail)
                  go_wp2
                  go_roundw
                  case rel => exact ⟨j + 1, false, by go_num, by omega, rfl, by show _ ↔ _; rw [HT.out, List.mem_append, List.mem_singleton]; exact ⟨fun h => (by cases h), fun h => (by rcases h with h | h; exact absurd h HN.out; exact absurd h HE.out)⟩, HGW.out.drewN _⟩
                  case measure => simp [intOf]; omega
              · have HE : Hid (¬ ((x1, x2) : K) = (y1, y2)) := fun h => hx ((Un.keq _ _ _ _).1 h).1.symm
                go_wp2
                go_quiet (fail)
                go_wp2
                go_roundw
                case rel => exact ⟨j + 1, false, by go_num, by omega, rfl, by show _ ↔ _; rw [HT.out, List.mem_append, List.mem_singleton]; exact ⟨fun h => (by cases h), fun h => (by rcases h with h | h; exact absurd h HN.out; exact absurd h HE.out)⟩, HGW.out.drewN _⟩
                case measure => simp [intOf]; omega
          · have jz : ¬ (j : Int) < (n : Int) := by omega
            have HK2 : Hid (kn = true ↔ (x1, x2) ∈ P) := by show _ ↔ _; rw [HK.out, List.take_of_length_le (by have := HPL.out; omega)]
            cases kn with
            | true =>
              have HE := hid (HX.out.1 (HK2.out.1 rfl))
              go_wp2
              go_roundw
              case rel => exact ⟨i + 1, n, by go_num, by omega, hnm, rfl, by rw [HE.out]; exact HPL.out, HG.out.trans' HGW.out⟩
              case measure => simp [intOf]; omega
            | false =>
              obtain ⟨hlt2, hkf, HE⟩ := HX.out.2 (fun h => by have := HK2.out.2 h; cases this)
              have z1 : ¬ (m : Int) ≤ (n : Int) := by omega
              have z2 : (n : Int) < (m : Int) := by omega
              obtain ⟨g, go, rfl, e0, e1⟩ := HUR.out wr (HG.out.trans' HGW.out) n hlt2
              have HE2 := hid HE
              have hk1 : (kf n).1 = x1 := by rw [hkf]
              have hk2 : (kf n).2 = x2 := by rw [hkf]
              rw [hk1] at e0
              rw [hk2] at e1
              clear hkf hk1 hk2 HE
              go_wp2
              go_quiet (fail)
              go_wp2
              go_roundw
              case rel => exact ⟨i + 1, n + 1, by go_num, by omega, by omega, by go_num, HE2.out, (HG.out.trans' HGW.out).drewN _⟩
              case measure => simp [intOf]; omega
      by_cases o2 : x0 = 2
      · subst o2
        have HXY := hid (HX.out (by rw [HI.out]; rfl))
        have HX := HXY
        clear HX0 HI HXY
        go_wp2
        go_loopw [6, 7] (fun q i wr => ∃ (j : Nat) (kn : Bool), i = .int .i64 j ∧ j ≤ n ∧ q = .bool kn ∧ Hid (kn = true ↔ (x1, x2) ∈ P.take j) ∧ Hid (Touch [] wo wr)) (fun _ i _ => n - (intOf i).toNat)
        case atStart => exact ⟨0, false, rfl, Nat.zero_le _, rfl, by show _ ↔ _; simp, Touch.refl [] _⟩
        case round =>
          obtain ⟨j, kn, rfl, hj, rfl, HK, HGW⟩ := hrel
          have d1 := tcell HGW.out c1
          have d2 := tcell HGW.out c2
          by_cases hjl : j < n
          · have jz : (j : Int) < (n : Int) := by omega
            have jz2 : (j : Int) < (m : Int) := by omega
            obtain ⟨g, go, rfl, e0, e1⟩ := HUR.out wr (HG.out.trans' HGW.out) j (by omega)
            have HT : Hid (P.take (j + 1) = P.take j ++ [((kf j).1, (kf j).2)]) := HPT.out j hjl
            generalize (kf j).1 = y1 at *
            generalize (kf j).2 = y2 at *
            cases kn with
            | true =>
              go_wp2
              go_quiet (fail)
              go_wp2
              go_roundw
              case rel => exact ⟨j + 1, true, by go_num, by omega, rfl, by show _ ↔ _; rw [HT.out, List.mem_append, List.mem_singleton]; exact ⟨fun _ => Or.inl (HK.out.1 (by trivial)), fun _ => rfl⟩, HGW.out.drewN _⟩
              case measure => simp [intOf]; omega
            | false =>
              have HN : Hid (¬ (x1, x2) ∈ P.take j) := fun h => by have := HK.out.2 h; cases this
              by_cases hx : y1 = x1
              · subst hx
                by_cases hy : y2.toList = x2.toList
                · have HE : Hid (((y1, x2) : K) = (y1, y2)) := (Un.keq _ _ _ _).2 ⟨rfl, hy.symm⟩
                  go_wp2
                  go_quiet (fail)
                  go_wp2
                  go_roundw
                  case rel => exact ⟨j + 1, true, by go_num, by omega, rfl, by show _ ↔ _; rw [HT.out, List.mem_append, List.mem_singleton]; exact ⟨fun _ => Or.inr HE.out, fun _ => rfl⟩, HGW.out.drewN _⟩
                  case measure => simp [intOf]; omega
                · have HE : Hid (¬ ((y1, x2) : K) = (y1, y2)) := fun h => hy ((Un.keq _ _ _ _).1 h).2.symm
                  go_wp2
                  go_quiet (fail)
                  go_wp2
                  go_roundw
                  case rel => exact ⟨j + 1, false, by go_num, by omega, rfl, by show _ ↔ _; rw [HT.out, List.mem_append, List.mem_singleton]; exact ⟨fun h => (by cases h), fun h => (by rcases h with h | h; exact absurd h HN.out; exact absurd h HE.out)⟩, HGW.out.drewN _⟩
                  case measure => simp [intOf]; omega
              · have HE : Hid (¬ ((x1, x2) : K) = (y1, y2)) := fun h => hx ((Un.keq _ _ _ _).1 h).1.symm
                go_wp2
                go_quiet (fail)
                go_wp2
                go_roundw
                case rel => exact ⟨j + 1, false, by go_num, by omega, rfl, by show _ ↔ _; rw [HT.out, List.mem_append, List.mem_singleton]; exact ⟨fun h => (by cases h), fun h => (by rcases h with h | h; exact absurd h HN.out; exact absurd h HE.out)⟩, HGW.out.drewN _⟩
                case measure => simp [intOf]; omega
          · have jz : ¬ (j : Int) < (n : Int) := by omega
            have HK2 : Hid (kn = true ↔ (x1, x2) ∈ P) := by show _ ↔ _; rw [HK.out, List.take_of_length_le (by have := HPL.out; omega)]
            cases kn with
            | true =>
              have HE := hid (HX.out.1 (HK2.out.1 rfl))
              go_wp2
              go_roundw
              case rel => exact ⟨i + 1, n, by go_num, by omega, hnm, rfl, by rw [HE.out]; exact HPL.out, HG.out.trans' HGW.out⟩
              case measure => simp [intOf]; omega
            | false =>
              obtain ⟨hlt2, hkf, HE⟩ := HX.out.2 (fun h => by have := HK2.out.2 h; cases this)
              have z1 : ¬ (m : Int) ≤ (n : Int) := by omega
              have z2 : (n : Int) < (m : Int) := by omega
              obtain ⟨g, go, rfl, e0, e1⟩ := HUR.out wr (HG.out.trans' HGW.out) n hlt2
              have HE2 := hid HE
              have hk1 : (kf n).1 = x1 := by rw [hkf]
              have hk2 : (kf n).2 = x2 := by rw [hkf]
              rw [hk1] at e0
              rw [hk2] at e1
              clear hkf hk1 hk2 HE
              go_wp2
              go_quiet (fail)
              go_wp2
              go_roundw
              case rel => exact ⟨i + 1, n + 1, by go_num, by omega, by omega, by go_num, HE2.out, (HG.out.trans' HGW.out).drewN _⟩
              case measure => simp [intOf]; omega
      by_cases o4 : x0 = 4
      · subst o4
        have HXY := hid (HX.out (by rw [HI.out]; rfl))
        have HX := HXY
        clear HX0 HI HXY
        go_wp2
        go_loopw [6, 7] (fun q i wr => ∃ (j : Nat) (kn : Bool), i = .int .i64 j ∧ j ≤ n ∧ q = .bool kn ∧ Hid (kn = true ↔ (x1, x2) ∈ P.take j) ∧ Hid (Touch [] wo wr)) (fun _ i _ => n - (intOf i).toNat)
        case atStart => exact ⟨0, false, rfl, Nat.zero_le _, rfl, by show _ ↔ _; simp, Touch.refl [] _⟩
        case round =>
          obtain ⟨j, kn, rfl, hj, rfl, HK, HGW⟩ := hrel
          have d1 := tcell HGW.out c1
          have d2 := tcell HGW.out c2
          by_cases hjl : j < n
          · have jz : (j : Int) < (n : Int) := by omega
            have jz2 : (j : Int) < (m : Int) := by omega
            obtain ⟨g, go, rfl, e0, e1⟩ := HUR.out wr (HG.out.trans' HGW.out) j (by omega)
            have HT : Hid (P.take (j + 1) = P.take j ++ [((kf j).1, (kf j).2)]) := HPT.out j hjl
            generalize (kf j).1 = y1 at *
            generalize (kf j).2 = y2 at *
            cases kn with
            | true =>
              go_wp2
              go_quiet (fail)
              go_wp2
              go_roundw
              case rel => exact ⟨j + 1, true, by go_num, by omega, rfl, by show _ ↔ _; rw [HT.out, List.mem_append, List.mem_singleton]; exact ⟨fun _ => Or.inl (HK.out.1 (by trivial)), fun _ => rfl⟩, HGW.out.drewN _⟩
              case measure => simp [intOf]; omega
            | false =>
              have HN : Hid (¬ (x1, x2) ∈ P.take j) := fun h => by have := HK.out.2 h; cases this
              by_cases hx : y1 = x1
              · subst hx
                by_cases hy : y2.toList = x2.toList
                · have HE : Hid (((y1, x2) : K) = (y1, y2)) := (Un.keq _ _ _ _).2 ⟨rfl, hy.symm⟩
                  go_wp2
                  go_quiet (fail)
                  go_wp2
                  go_roundw
                  case rel => exact ⟨j + 1, true, by go_num, by omega, rfl, by show _ ↔ _; rw [HT.out, List.mem_append, List.mem_singleton]; exact ⟨fun _ => Or.inr HE.out, fun _ => rfl⟩, HGW.out.drewN _⟩
                  case measure => simp [intOf]; omega
                · have HE : Hid (¬ ((y1, x2) : K) = (y1, y2)) := fun h => hy ((Un.keq _ _ _ _).1 h).2.symm
                  go_wp2
                  go_quiet (fail)
                  go_wp2
                  go_roundw
                  case rel => exact ⟨j + 1, false, by go_num, by omega, rfl, by show _ ↔ _; rw [HT.out, List.mem_append, List.mem_singleton]; exact ⟨fun h => (by cases h), fun h => (by rcases h with h | h; exact absurd h HN.out; exact absurd h HE.out)⟩, HGW.out.drewN _⟩
                  case measure => simp [intOf]; omega
              · have HE : Hid (¬ ((x1, x2) : K) = (y1, y2)) := fun h => hx ((Un.keq _ _ _ _).1 h).1.symm
                go_wp2
                go_quiet (fail)
                go_wp2
                go_roundw
                case rel => exact ⟨j + 1, false, by go_num, by omega, rfl, by show _ ↔ _; rw [HT.out, List.mem_append, List.mem_singleton]; exact ⟨fun h => (by cases h), fun h => (by rcases h with h | h; exact absurd h HN.out; exact absurd h HE.out)⟩, HGW.out.drewN _⟩
                case measure => simp [intOf]; omega
          · have jz : ¬ (j : Int) < (n : Int) := by omega
            have HK2 : Hid (kn = true ↔ (x1, x2) ∈ P) := by show _ ↔ _; rw [HK.out, List.take_of_length_le (by have := HPL.out; omega)]
            cases kn with
            | true =>
              have HE := hid (HX.out.1 (HK2.out.1 rfl))
              go_wp2
              go_roundw
              case rel => exact ⟨i + 1, n, by go_num, by omega, hnm, rfl, by rw [HE.out]; exact HPL.out, HG.out.trans' HGW.out⟩
              case measure => simp [intOf]; omega
            | false =>
              obtain ⟨hlt2, hkf, HE⟩ := HX.out.2 (fun h => by have := HK2.out.2 h; cases this)
              have z1 : ¬ (m : Int) ≤ (n : Int) := by omega
              have z2 : (n : Int) < (m : Int) := by omega
              obtain ⟨g, go, rfl, e0, e1⟩ := HUR.out wr (HG.out.trans' HGW.out) n hlt2
              have HE2 := hid HE
              have hk1 : (kf n).1 = x1 := by rw [hkf]
              have hk2 : (kf n).2 = x2 := by rw [hkf]
              rw [hk1] at e0
              rw [hk2] at e1
              clear hkf hk1 hk2 HE
              go_wp2
              go_quiet (fail)
              go_wp2
              go_roundw
              case rel => exact ⟨i + 1, n + 1, by go_num, by omega, by omega, by go_num, HE2.out, (HG.out.trans' HGW.out).drewN _⟩
              case measure => simp [intOf]; omega
      have n1 : (x0 != 1) = true := by simp [o1]
      have n2 : (x0 != 2) = true := by simp [o2]
      have n4 : (x0 != 4) = true := by simp [o4]
      have HE := hid (HX0.out (by rw [HI.out, decide_eq_false o1, decide_eq_false o2, decide_eq_false o4]; rfl))
      clear o1 o2 o4 HX HI
      go_wp2
      go_roundw
      case rel => exact ⟨i + 1, n, by go_num, by omega, hnm, rfl, by rw [HE.out]; exact HPL.out, HG.out⟩
      case measure => simp [intOf]; omega
    · have hz : ¬ (i : Int) < (L.length : Int) := by omega
      have hnn : n = m := by
        have h1 := HPL.out
        rw [show i = L.length by omega, HML.out, ← HM.out] at h1
        exact h1
      subst hnn
      go_wp2_with fail
      refine (HA.out _ (T1.out.trans' HG.out)).mono ?_
      rintro e w6 ⟨rfl, t6⟩
      go_wp2_with fail
      go_ret
      exact ⟨by simp, (T1.out.trans' HG.out).trans' t6⟩
end Go.Proofs.YthakboiecdjgnaaDoor.Ci
