/- The contracts of ref, and of says: a sketch says what the document's says; no conditions but those that each states. -/
import Derived.Test.YtbadlkjffelkhaaXdg
namespace Go.Proofs.Ytbadlkjffelkhaa.Sk
open Go.RowKit Go.Maps Go.ChangeMaps
set_option maxRecDepth 100000
set_option linter.unusedVariables false
set_option linter.unusedSimpArgs false
theorem ref_ (k : K) (w : World) : Calls Try.prog 18 #[kv k] w fun e w' => e = .returned (kv k) ∧ Touch [] w w' := by
  unfold kv
  go_enter Try.func18, Try.ntmps18
  go_wp2
  exact bodyPost_ret (v := .agg #[.int .u16 k.1, .string k.2]) (by simp [results, Try.results18, go_sem]) rfl ⟨rfl, by repeat (first | exact Touch.refl _ _ | apply Touch.alloc | (refine Touch.setCell ?_ (Or.inr (by simp)) _))⟩
theorem rcount_ {w : World} {B G cap : Nat} {Q Cp : Nat → Nat} {X : S} (h : Dq w B G cap Q Cp X) (hw : Wf X) {k : K} (hk : Ok k) : Calls Try.prog 19 #[dv (.slice (some ⟨G, 0, none⟩) X.r cap) X, kv k] w fun e w' => e = .returned (.int .i64 (cnK X k : Nat)) ∧ Touch [] w w' := by
  unfold cnK
  by_cases h64 : k.2.size ≤ 64
  · rw [if_pos h64]
    exact rcount_ok h hk h64 (fun i p => Nat.le_trans (hw.c2 i p) (by omega))
  · rw [if_neg h64]
    exact rcount_no (by omega) w
/-- Keys that can be read. -/
def KyS (w : World) (a : Option Addr) (ks : List K) : Prop := ∀ w1, Touch [] w w1 → ∀ i (h : i < ks.length), Ok ks[i] ∧ ∃ b off, a = some ⟨b, off, none⟩ ∧ w1.cell? ⟨b, off + i * 2, none⟩ = some (.int .u16 ks[i].1) ∧ w1.cell? ⟨b, off + i * 2 + 1, none⟩ = some (.string ks[i].2)
theorem KyS.keep {w w' : World} {a : Option Addr} {ks : List K} (h : KyS w a ks) (T : Touch [] w w') : KyS w' a ks := fun w1 t i hi => h w1 (T.trans' t) i hi
theorem KyS.of_sl {w : World} {a : Option Addr} {n c : Nat} {xs : List KyA} (h : SlKyA w (.slice a n c) xs) (hx : ∀ x ∈ xs, x.ok) : KyS w a (xs.map KyA.key) := fun w1 t i hi => by
  have hi' : i < xs.length := by simpa using hi
  have := SlKyA.cell (SlKyA.keep h t) hi'
  rw [List.getElem_map]
  exact ⟨KyA.okk (hx _ (List.getElem_mem hi')), this⟩
section
variable {w w' : World} {s g cap G cp : Nat} {Q Cp : Nat → Nat} {X : S} {a : Option Addr} {ks : List K}
set_option maxHeartbeats 8000000 in
theorem says_ (k : Kq w s g cap X) (d : Dq w 0 G cp Q Cp X) (hs : KyS w a ks) {c : Nat} (hl : ks.length ≤ 9000000000000) : Calls Try.prog 10 #[PT s, dv (.slice (some ⟨G, 0, none⟩) X.r cp) X, .slice a ks.length c] w fun e w' => e = .returned (.bool true) ∧ Touch [] w w' := by
  obtain ⟨V, hV⟩ : ∃ V, V = w.alloc (.cells #[.int .i64 (X.b : Nat), .slice (some ⟨G, 0, none⟩) X.r cp, .int .u64 (X.t : Nat)] 29) := ⟨_, rfl⟩
  have TV : Touch [] w V := by rw [hV]; exact (Touch.refl _ _).alloc _
  have hb : V.heap[w.heap.size]? = some (.cells #[.int .i64 (X.b : Nat), .slice (some ⟨G, 0, none⟩) X.r cp, .int .u64 (X.t : Nat)] 29 (0, 0)) := by rw [hV]; exact heap_alloc_new w _
  have M0 : ∀ w1, Touch [] V w1 → w1.cell? ⟨w.heap.size, 0, none⟩ = some (.int .i64 (X.b : Nat)) := fun w1 t1 => cell_at (t1.keep hb (by simp)) rfl
  have M1 : ∀ w1, Touch [] V w1 → w1.cell? ⟨w.heap.size, 1, none⟩ = some (.slice (some ⟨G, 0, none⟩) X.r cp) := fun w1 t1 => cell_at (t1.keep hb (by simp)) rfl
  have M2 : ∀ w1, Touch [] V w1 → w1.cell? ⟨w.heap.size, 2, none⟩ = some (.int .u64 (X.t : Nat)) := fun w1 t1 => cell_at (t1.keep hb (by simp)) rfl
  have HTO := hid (fun w1 (t1 : Touch [] V w1) => total_ (k.keep0 (TV.trans' t1)))
  have HCN := hid (fun w1 (t1 : Touch [] V w1) (x : K) (hx : Ok x) => count_ (k.keep0 (TV.trans' t1)) hx)
  have HRC := hid (fun w1 (t1 : Touch [] V w1) (x : K) (hx : Ok x) => rcount_ (d.keep0 (TV.trans' t1)) k.wf hx)
  have HRF := hid ref_
  have HPN := hid (fun w1 (t1 : Touch [] V w1) (x : K) (hx : 64 < x.2.size) => places_no (k.keep0 (TV.trans' t1)) hx)
  have HPO := hid (fun w1 (t1 : Touch [] V w1) (x : K) (hx : Ok x) (h64 : x.2.size ≤ 64) => places_ok (k.keep0 (TV.trans' t1)) hx h64)
  have HPL := hid (fun (x : K) (hx : Ok x) (h64 : x.2.size ≤ 64) (i : Nat) (hi : i ≤ 8) w1 => rplace_ (X := X) (a := some ⟨G, 0, none⟩) (n := X.r) (c := cp) hx (by omega) d.b2 i hi w1)
  have HKS := hid (hs.keep TV)
  have HT := hid TV
  have r2 := d.r2
  have HCL := hid (fun x => cnK_le X x)
  obtain ⟨n, hn⟩ : ∃ n, n = ks.length := ⟨_, rfl⟩
  rw [← hn] at hl ⊢
  have HN := hid hn
  clear k d hs TV hb hn
  unfold kv dv PT at *
  go_enter Try.func10, Try.ntmps10
  go_upto_region 1 with fail
  rw [← hV]
  clear hV
  go_region_held3 (fun w' => Touch [] V w') (first | assumption | exact (Touch.refl _ _).drew | exact Touch.refl _ _ | exact Touch.drew (by assumption))
    (first | (go_at_call 25; refine (HTO.out _ (by assumption)).mono ?_; rintro e w1 ⟨rfl, rfl⟩))
  obtain ⟨V1, hV1⟩ : ∃ V1, V1 = V.drew := ⟨_, rfl⟩
  have TV1 : Hid (Touch [] V V1) := hid (by rw [hV1]; exact (Touch.refl _ _).drew)
  rw [← hV1]
  clear hV1 HTO
  go_wp2
  go_loopw [7] (fun s7 wr => ∃ i : Nat, i ≤ n ∧ s7 = .int .i64 i ∧ Touch [] V wr) (fun s7 _ => n - (intOf s7).toNat)
  case atStart => exact ⟨0, Nat.zero_le _, rfl, TV1.out⟩
  case round =>
    obtain ⟨i, hi, rfl, T⟩ := hrel
    clear TV1
    by_cases hlt : i < n
    · have zi : (i : Int) < (n : Int) := by omega
      have hik : i < ks.length := by have := HN.out; omega
      obtain ⟨hok, kb, off, rfl, -, -⟩ := HKS.out V (Touch.refl _ _) i hik
      have K0 : ∀ w1, Touch [] V w1 → w1.cell? ⟨kb, off + i * 2, none⟩ = some (.int .u16 ks[i].1) := fun w1 t => by
        obtain ⟨_, b', o', e, h1, h2⟩ := HKS.out w1 t i hik
        cases e; exact h1
      have K1 : ∀ w1, Touch [] V w1 → w1.cell? ⟨kb, off + i * 2 + 1, none⟩ = some (.string ks[i].2) := fun w1 t => by
        obtain ⟨_, b', o', e, h1, h2⟩ := HKS.out w1 t i hik
        cases e; exact h2
      obtain ⟨x, hx⟩ : ∃ x, x = ks[i] := ⟨_, rfl⟩
      rw [← hx] at K0 K1 hok
      have HC1 := hid (fun w1 t => HCN.out w1 t x hok)
      have HC2 := hid (fun w1 t => HRC.out w1 t x hok)
      have HR1 := hid (HRF.out x)
      have hc5 := HCL.out x
      clear HKS HCN HRC HRF HCL hx hik
      generalize cnK X x = cn at *
      by_cases h64 : x.2.size ≤ 64
      · have z6 : ¬ (64 : Int) < (x.2.size : Int) := by omega
        have HP1 := hid (fun w1 t => HPO.out w1 t x hok h64)
        have HP2 := hid (HPL.out x hok h64)
        clear HPN HPO HPL hok h64
        go_wp2
        go_region_held3 (fun w' => Touch [] V w') (first | assumption | exact Touch.drew (by assumption))
          (first
            | (go_at_call 23; refine (HC1.out _ (by assumption)).mono ?_; rintro e w1 ⟨rfl, t1⟩; have T1 : Touch [] V w1 := Touch.trans' (by assumption) t1; clear t1)
            | (go_at_call 18; refine (HR1.out _).mono ?_; rintro e w2 ⟨rfl, t2⟩; have T2 : Touch [] V w2 := Touch.trans' (by assumption) t2; clear t2)
            | (go_at_call 19; refine (HC2.out _ (by assumption)).mono ?_; rintro e w3 ⟨rfl, t3⟩; have T3 : Touch [] V w3 := Touch.trans' (by assumption) t3; clear t3))
        have k0 := K0 w3 T3
        have k1 := K1 w3 T3
        go_wp2_with (go_at_call 26; refine (HP1.out _ T3).mono ?_; rintro e w4 ⟨a4, c4, rfl, r4, t4⟩; have T4 : Touch [] V w4 := T3.trans' t4; have k2 := K1 w4 T4; have m1 := M1 w4 T4; have R4 := hid r4; have T4' := hid T4; clear r4 t4 T3 T4)
        have hpl := plcs_len X (hK x) X.r
        have HPC : Hid (∀ w5, Touch [] w4 w5 → ∀ r, (hr : r < X.r) → ∃ b5, a4 = some ⟨b5, 0, none⟩ ∧ w5.cell? ⟨b5, r, none⟩ = some (.int .i64 (plc X.b (hK x) r : Nat))) := hid (fun w5 t5 r hr => by
          obtain ⟨b5, e5, h5⟩ := (R4.out.keep0 t5).cell (i := r) (by rw [hpl]; exact hr)
          refine ⟨b5, e5, ?_⟩
          rw [h5]
          simp [plcs])
        clear R4 hpl
        go_loopw [9] (fun s9 wr2 => ∃ r : Nat, r ≤ X.r ∧ s9 = .int .i64 r ∧ Touch [] w4 wr2) (fun s9 _ => X.r - (intOf s9).toNat)
        case atStart => exact ⟨0, Nat.zero_le _, rfl, Touch.refl _ _⟩
        case round =>
          obtain ⟨r, hr, rfl, TT⟩ := hrel
          by_cases hrt : r < X.r
          · have zr : (r : Int) < (X.r : Int) := by omega
            obtain ⟨b5, rfl, -⟩ := HPC.out w4 (Touch.refl _ _) r hrt
            have P0 : ∀ w1, Touch [] w4 w1 → w1.cell? ⟨b5, r, none⟩ = some (.int .i64 (plc X.b (hK x) r : Nat)) := fun w1 t => by
              obtain ⟨b', e, h1⟩ := HPC.out w1 t r hrt
              cases e; exact h1
            have K0' : ∀ w1, Touch [] w4 w1 → w1.cell? ⟨kb, off + i * 2, none⟩ = some (.int .u16 x.1) := fun w1 t => K0 w1 (T4'.out.trans' t)
            have K1' : ∀ w1, Touch [] w4 w1 → w1.cell? ⟨kb, off + i * 2 + 1, none⟩ = some (.string x.2) := fun w1 t => K1 w1 (T4'.out.trans' t)
            have N0 : ∀ w1, Touch [] w4 w1 → w1.cell? ⟨w.heap.size, 0, none⟩ = some (.int .i64 (X.b : Nat)) := fun w1 t => M0 w1 (T4'.out.trans' t)
            have N1 : ∀ w1, Touch [] w4 w1 → w1.cell? ⟨w.heap.size, 1, none⟩ = some (.slice (some ⟨G, 0, none⟩) X.r cp) := fun w1 t => M1 w1 (T4'.out.trans' t)
            have N2 : ∀ w1, Touch [] w4 w1 → w1.cell? ⟨w.heap.size, 2, none⟩ = some (.int .u64 (X.t : Nat)) := fun w1 t => M2 w1 (T4'.out.trans' t)
            have HP3 := hid (HP2.out r (by omega))
            clear HPC HP2 HP1 M0 M1 M2 K0 K1 HC1 HC2 k0 k1 k2 m1
            generalize plc X.b (hK x) r = pl at *
            go_wp2
            go_region_held3 (fun w' => Touch [] w4 w') (first | assumption | exact Touch.drew (by assumption))
              (first
                | (go_at_call 18; refine (HR1.out _).mono ?_; rintro e w5 ⟨rfl, t5⟩; have T5 : Touch [] w4 w5 := Touch.trans' (by assumption) t5; clear t5)
                | (go_at_call 30; refine (HP3.out _).mono ?_; rintro e w6 ⟨rfl, t6⟩; have T6 : Touch [] w4 w6 := Touch.trans' (by assumption) t6; clear t6))
            go_wp2
            refine ⟨⟨r + 1, by omega, rfl, T6⟩, by simp [intOf]; omega⟩
          · have er : r = X.r := by omega
            subst er
            have zr : ¬ (X.r : Int) < (X.r : Int) := by omega
            clear HPC HP2 HP1 M0 M1 M2 K0 K1 HC1 HC2 k0 k1 k2 m1
            go_wp2
            refine ⟨⟨i + 1, by omega, rfl, T4'.out.trans' TT⟩, by simp [intOf]; omega⟩
      · have z6 : (64 : Int) < (x.2.size : Int) := by omega
        have HP1 := hid (fun w1 t => HPN.out w1 t x (by omega))
        clear HPN HPO HPL hok h64
        go_wp2
        go_region_held3 (fun w' => Touch [] V w') (first | assumption | exact Touch.drew (by assumption))
          (first
            | (go_at_call 23; refine (HC1.out _ (by assumption)).mono ?_; rintro e w1 ⟨rfl, t1⟩; have T1 : Touch [] V w1 := Touch.trans' (by assumption) t1; clear t1)
            | (go_at_call 18; refine (HR1.out _).mono ?_; rintro e w2 ⟨rfl, t2⟩; have T2 : Touch [] V w2 := Touch.trans' (by assumption) t2; clear t2)
            | (go_at_call 19; refine (HC2.out _ (by assumption)).mono ?_; rintro e w3 ⟨rfl, t3⟩; have T3 : Touch [] V w3 := Touch.trans' (by assumption) t3; clear t3))
        have k0 := K0 w3 T3
        have k1 := K1 w3 T3
        go_wp2_with (go_at_call 26; refine (HP1.out _ T3).mono ?_; rintro e w4 ⟨rfl, t4⟩; have T4 : Touch [] V w4 := T3.trans' t4; have k2 := K1 w4 T4; have T4' := hid T4; clear t4 T3 T4)
        refine ⟨⟨i + 1, by omega, rfl, T4'.out⟩, by simp [intOf]; omega⟩
    · have ei : i = n := by omega
      subst ei
      have zi : ¬ (i : Int) < (i : Int) := by omega
      clear HKS HCN HRC HRF HPN HPO HPL M0 M1 M2
      go_wp2
      go_ret
      exact ⟨rfl, HT.out.trans' T⟩
end
end Go.Proofs.Ytbadlkjffelkhaa.Sk
