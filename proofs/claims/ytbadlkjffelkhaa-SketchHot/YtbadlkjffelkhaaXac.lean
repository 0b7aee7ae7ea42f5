/- The law SketchAbove's walk; no conditions. -/
import Derived.Test.YtbadlkjffelkhaaXab
namespace Go.Proofs.Ytbadlkjffelkhaa.Sk
open Go.RowKit Go.Maps Go.ChangeMaps
set_option maxRecDepth 100000
set_option linter.unusedVariables false
set_option linter.unusedSimpArgs false
/-- Add of any key. -/
def adV (X : S) (k : K) : Nat := if k.2.size ≤ 64 then addV X (hK k) else 0
def adE (k : K) : Nat := if k.2.size ≤ 64 then 0 else 20
theorem add_any {w : World} {s g cap : Nat} {X : S} (h : Kq w s g cap X) {k : K} (hk : Ok k) : Calls Try.prog 13 #[PT s, kv k] w fun e w' => e = .returned (.tuple #[.int .i64 (adV X k : Nat), .int .i64 (adE k : Nat)]) ∧ Touch [s, g] w w' ∧ Kq w' s g cap (addK X k) := by
  unfold adV adE addK
  by_cases h64 : k.2.size ≤ 64
  · rw [if_pos h64, if_pos h64, if_pos h64]
    exact add_ok h hk h64
  · rw [if_neg h64, if_neg h64, if_neg h64]
    refine (add_no h (k := k) (by omega)).mono ?_
    rintro e w' ⟨rfl, t⟩
    exact ⟨rfl, t.mono (by simp), h.keep0 t⟩
/-- A new sketch of whatever size. -/
theorem new_may (r b : Int) (h : mayZ r b = true) (w : World) : Calls Try.prog 22 #[.int .i64 r, .int .i64 b] w fun e w' => ∃ s g cap, e = .returned (.tuple #[.pointer (some ⟨s, 0, none⟩), .int .i64 0]) ∧ w.heap.size ≤ s ∧ w.heap.size ≤ g ∧ Kq w' s g cap (newS r.toNat b.toNat) ∧ Touch [] w w' := by
  obtain ⟨h1, h2, h3, h4⟩ := (mayZ_iff r b).1 h
  obtain ⟨R, rfl⟩ := Int.eq_ofNat_of_zero_le (show 0 ≤ r by omega)
  obtain ⟨B, rfl⟩ := Int.eq_ofNat_of_zero_le h3
  refine (new_ok R B (by omega) (by omega) (by omega) w).mono ?_
  rintro e w' ⟨v, rfl, s, g, cap, rfl, q⟩
  exact ⟨s, g, cap, rfl, q⟩
/-- The sketch that the law makes. -/
def szR (r b : Int) : Int := if mayZ r b then r else 3
def szB (r b : Int) : Int := if mayZ r b then b else 4
theorem sz_may (r b : Int) : mayZ (szR r b) (szB r b) = true := by
  unfold szR szB
  by_cases h : mayZ r b = true
  · rw [if_pos h, if_pos h]; exact h
  · rw [if_neg h, if_neg h]; decide
/-- How often a key that may be stands in a list. -/
def mny (k : K) (l : List K) : Nat := if k.2.size ≤ 64 then often k l else 0
theorem mny_le (k : K) (l : List K) : mny k l ≤ l.length := by
  unfold mny
  split
  · exact often_le k l
  · exact Nat.zero_le _
theorem mny_snoc (k : K) (l : List K) (x : K) : mny k (l ++ [x]) = mny k l + (if x = k ∧ k.2.size ≤ 64 then 1 else 0) := by
  unfold mny
  by_cases h : k.2.size ≤ 64
  · rw [if_pos h, if_pos h, often_snoc]
    simp [h]
  · rw [if_neg h, if_neg h, if_neg (fun e => h e.2)]
theorem mny_cnt (X : S) (k : K) (l : List K) : min (mny k l) 255 ≤ cnK (adds X l) k := by
  unfold mny cnK
  by_cases h : k.2.size ≤ 64
  · rw [if_pos h, if_pos h]; exact adds_down X k h l
  · rw [if_neg h, if_neg h]; omega
set_option maxHeartbeats 8000000 in
theorem above_ (w : World) (r b : Int) (xs : List KyA) (v : Value) (hr : W64 r) (hb : W64 b) (hv : SlKyA w v xs) (hx : ∀ x ∈ xs, x.ok) (hlen : xs.length ≤ 5864062014635) : Calls Try.prog 6 #[.int .i64 r, .int .i64 b, v] w fun e w' => e = .returned (.bool true) ∧ Touch [] w w' := by
  obtain ⟨a, c, rfl⟩ := SlKyA.form hv
  obtain ⟨n, hn⟩ : ∃ n, n = xs.length := ⟨_, rfl⟩
  have HM := hid (fun w => may_ r b w)
  have HN := hid (fun w => new_may (szR r b) (szB r b) (sz_may r b) w)
  have HW := hid awake_
  obtain ⟨ks, hks⟩ : ∃ ks, ks = xs.map KyA.key := ⟨_, rfl⟩
  have hkl : ks.length = n := by rw [hks, hn]; simp
  have HX : Hid (∀ w1 i (hi : i < ks.length), Touch [] w w1 → Ok ks[i] ∧ ∃ b off, a = some ⟨b, off, none⟩ ∧ w1.cell? ⟨b, off + i * 2, none⟩ = some (.int .u16 ks[i].1) ∧ w1.cell? ⟨b, off + i * 2 + 1, none⟩ = some (.string ks[i].2)) := hid (fun w1 i hi t => by
    subst hks
    have hi' : i < xs.length := by simpa using hi
    have := SlKyA.cell (SlKyA.keep hv t) hi'
    rw [List.getElem_map]
    exact ⟨KyA.okk (hx _ (List.getElem_mem hi')), this⟩)
  rw [← hn] at hlen ⊢
  obtain ⟨R, hR⟩ : ∃ R, R = szR r b := ⟨_, rfl⟩
  obtain ⟨B, hB⟩ : ∃ B, B = szB r b := ⟨_, rfl⟩
  have hR1 : 1 ≤ R.toNat := by
    have := (mayZ_iff _ _).1 (sz_may r b)
    rw [← hR] at this
    omega
  have HSZ : Hid (mayZ r b = true → r = R ∧ b = B) := hid (fun h => by rw [hR, hB]; unfold szR szB; rw [if_pos h, if_pos h]; exact ⟨rfl, rfl⟩)
  have HSF : Hid (mayZ r b = false → (3 : Int) = R ∧ (4 : Int) = B) := hid (fun h => by rw [hR, hB]; unfold szR szB; rw [if_neg (by simp [h]), if_neg (by simp [h])]; exact ⟨rfl, rfl⟩)
  rw [← hR, ← hB] at HN
  clear hR hB hr hb hv hx hks hn xs
  have HUP := hid (fun (g : Nat) (l : List K) => adds_up R.toNat B.toNat hR1 g l)
  generalize newS R.toNat B.toNat = X0 at *
  clear hR1
  generalize mayZ r b = my at *
  have hcase : (my = true ∧ r = R ∧ b = B) ∨ (my = false ∧ R = 3 ∧ B = 4) := by
    cases my with
    | true => exact Or.inl ⟨rfl, HSZ.out rfl⟩
    | false => exact Or.inr ⟨rfl, (HSF.out rfl).1.symm, (HSF.out rfl).2.symm⟩
  clear HSZ HSF
  have HMN : Hid (∀ k l, mny k l ≤ l.length) := hid mny_le
  have HAK := hid (fun w1 s g cap X (k : K) (h : Kq w1 s g cap X) (hk : Ok k) => add_any h hk)
  have HCT := hid (fun w1 s g cap X (k : K) (h : Kq w1 s g cap X) (hk : Ok k) => count_ h hk)
  have HDN := hid (fun (k : K) (l : List K) => mny_cnt X0 k l)
  have HUC : Hid (∀ k l, cnK (adds X0 l) k ≤ good l) := hid (fun k l => by
    unfold cnK
    split
    · exact HUP.out _ _
    · exact Nat.zero_le _)
  clear HUP
  have hlen3 : ∀ j, (ks.take j).length ≤ n := fun j => by rw [List.length_take]; omega
  have HEQ := hid eqK
  unfold kv PT at *
  rcases hcase with ⟨rfl, rfl, rfl⟩ | ⟨rfl, rfl, rfl⟩
  all_goals
    go_enter Try.func6, Try.ntmps6
    go_wp2_with (first
      | (go_at_call 21; refine (HM.out _).mono ?_; rintro e w0 ⟨rfl, e0⟩; rw [e0]; clear e0)
      | (go_at_call 22; refine (HN.out _).mono ?_; rintro e w1 ⟨s, g, cap, rfl, l1, l2, K1, T1⟩; have L := hid (And.intro l1 l2); have T1 := hid T1; have K1 := hid K1; clear l1 l2)
      | (go_at_call 9; refine (HW.out _).mono ?_; rintro e w2 ⟨rfl, T2⟩; have K2 := hid (Kq.keep0 K1.out T2); have T2 := hid (T1.out.trans' T2)))
    clear HM HN HW
    go_loopw [9, 10] (fun s9 s10 wr => ∃ i : Nat, i ≤ n ∧ i ≤ 300 ∧ s10 = .int .i64 i ∧ s9 = .int .i64 (good (ks.take i) : Nat) ∧ Touch [] w wr ∧ Kq wr s g cap (adds X0 (ks.take i))) (fun _ s10 _ => 300 - (intOf s10).toNat)
    case atStart => exact ⟨0, Nat.zero_le _, Nat.zero_le _, rfl, rfl, T2.out, K2.out⟩
    case round =>
      obtain ⟨i, hin, hi3, rfl, rfl, T, KQ⟩ := hrel
      by_cases hlt : i < n ∧ i < 300
      · obtain ⟨hi1, hi2⟩ := hlt
        have z1 : (i : Int) < (n : Int) := by omega
        have z2 : (i : Int) < 300 := by omega
        have hik : i < ks.length := by omega
        obtain ⟨hok, kb, off, rfl, c1, c2⟩ := HX.out wr i hik T
        have HA := hid (HAK.out wr s g cap _ ks[i] KQ hok)
        have HG := hid (good_snoc (ks.take i) ks[i])
        have HS := hid (adds_snoc X0 (ks.take i) ks[i])
        rw [← take_keys hik] at HG HS
        have hg := good_le (ks.take i)
        have hg2 := hlen3 i
        clear HX HAK HCT HDN HUC HMN KQ HEQ hok
        generalize good (ks.take i) = gd at *
        generalize ks[i] = k at *
        have w9 : IntKind.i64.wrap ((gd : Int) + 1) = (gd : Int) + 1 := by rw [IntKind.wrap_i64]; omega
        by_cases h64 : k.2.size ≤ 64
        · have z3 : (k.2.size : Int) ≤ 64 := by omega
          rw [if_pos h64] at HG
          clear h64
          go_wp2_with (go_at_call 13; refine HA.out.mono ?_; rintro e w3 ⟨rfl, T3, K3⟩; have T3 := hid T3; have K3 := hid K3)
          refine ⟨⟨i + 1, by omega, by omega, rfl, by rw [HG.out]; rfl, T.trans T3.out ?_, by rw [HS.out]; exact K3.out⟩, by simp [intOf]; omega⟩
          intro q hq
          simp only [List.mem_cons, List.mem_nil_iff, or_false] at hq
          rcases hq with rfl | rfl
          · exact Or.inr L.out.1
          · exact Or.inr L.out.2
        · have z3 : ¬ (k.2.size : Int) ≤ 64 := by omega
          rw [if_neg h64] at HG
          clear h64
          go_wp2_with (go_at_call 13; refine HA.out.mono ?_; rintro e w3 ⟨rfl, T3, K3⟩; have T3 := hid T3; have K3 := hid K3)
          refine ⟨⟨i + 1, by omega, by omega, rfl, by rw [HG.out]; rfl, T.trans T3.out ?_, by rw [HS.out]; exact K3.out⟩, by simp [intOf]; omega⟩
          intro q hq
          simp only [List.mem_cons, List.mem_nil_iff, or_false] at hq
          rcases hq with rfl | rfl
          · exact Or.inr L.out.1
          · exact Or.inr L.out.2
      · obtain ⟨M, hM1, hM2, hM3⟩ : ∃ M, M ≤ n ∧ M ≤ 300 ∧ M = i := ⟨i, hin, hi3, rfl⟩
        subst hM3
        have hMx : ¬ (M < n ∧ M < 300) := hlt
        clear hin hi3 hlt K2 T2 K1 T1 HAK
        obtain ⟨XF, hXF⟩ : ∃ XF, XF = adds X0 (ks.take M) := ⟨_, rfl⟩
        obtain ⟨gd, hgd⟩ : ∃ gd, gd = good (ks.take M) := ⟨_, rfl⟩
        have HUC := hid (fun k => HUC.out k (ks.take M))
        have HDN := hid (fun k => HDN.out k (ks.take M))
        rw [← hXF] at HUC HDN KQ
        rw [← hgd] at HUC ⊢
        have hgl : gd ≤ n := by rw [hgd]; exact Nat.le_trans (good_le _) (hlen3 M)
        clear hXF hgd
        go_upto_region 8 with fail
        go_cut [42] from 35 to 42 (fun s42 wx => s42 = .bool false ∧ wx = wr)
        case first =>
          by_cases h1 : M < n
          · have z1 : (M : Int) < (n : Int) := by omega
            have z2 : ¬ (M : Int) < 300 := by omega
            go_wp2
            go_meet
            case rel => exact ⟨rfl, rfl⟩
          · have z1 : ¬ (M : Int) < (n : Int) := by omega
            go_wp2
            go_meet
            case rel => exact ⟨rfl, rfl⟩
        case rest =>
          obtain ⟨rfl, rfl⟩ := hcut
          go_wp2
          have TC := hid T
          have KC := hid KQ
          clear T KQ
          go_loopw [11] (fun s11 wr => ∃ i : Nat, i ≤ M ∧ s11 = .int .i64 i ∧ Touch [] w wr ∧ Kq wr s g cap XF) (fun s11 _ => M - (intOf s11).toNat)
          case atStart => exact ⟨0, Nat.zero_le _, rfl, TC.out, KC.out⟩
          case round =>
            obtain ⟨i, hi, rfl, T, KQ⟩ := hrel
            clear TC KC
            by_cases hlt : i < M
            · have z1 : (i : Int) < (n : Int) := by omega
              have z2 : (i : Int) < 300 := by omega
              have hik : i < ks.length := by omega
              obtain ⟨k, hkk⟩ : ∃ k, k = ks[i] := ⟨_, rfl⟩
              have HXI := hid (fun w1 t => HX.out w1 i hik t)
              rw [← hkk] at HXI
              clear hkk
              have HUK := HUC.out k
              have HDK := HDN.out k
              go_wp2
              have TC := hid T
              have KC := hid KQ
              clear T KQ
              go_loopw [12, 13] (fun s12 s13 wr => ∃ j : Nat, j ≤ M ∧ s13 = .int .i64 j ∧ s12 = .int .i64 (mny k (ks.take j) : Nat) ∧ Touch [] w wr ∧ Kq wr s g cap XF) (fun _ s13 _ => M - (intOf s13).toNat)
              case atStart => exact ⟨0, Nat.zero_le _, rfl, by simp [mny, often], TC.out, KC.out⟩
              case round =>
                obtain ⟨j, hj, rfl, rfl, T, KQ⟩ := hrel
                clear TC KC
                by_cases hjt : j < M
                · have y1 : (j : Int) < (n : Int) := by omega
                  have y2 : (j : Int) < 300 := by omega
                  have hjk : j < ks.length := by omega
                  have HMS := hid (mny_snoc k (ks.take j) ks[j])
                  rw [← take_keys hjk] at HMS
                  have hmn := Nat.le_trans (HMN.out k (ks.take j)) (hlen3 j)
                  obtain ⟨hok, kb, off, rfl, c1, c2⟩ := HX.out wr j hjk T
                  obtain ⟨hok2, kb2, off2, e2, d1, d2⟩ := HXI.out wr T
                  cases e2
                  clear HX HXI HMN HCT HUK HDK hok hok2
                  generalize mny k (ks.take j) = m at *
                  generalize ks[j] = k2 at *
                  have w9 : IntKind.i64.wrap ((m : Int) + 1) = (m : Int) + 1 := by rw [IntKind.wrap_i64]; omega
                  have eqk := fun w1 => HEQ.out w1 k2 k
                  by_cases he : k2 = k
                  · subst he
                    rw [decide_eq_true rfl] at eqk
                    by_cases h64 : k2.2.size ≤ 64
                    · have z3 : (k2.2.size : Int) ≤ 64 := by omega
                      rw [if_pos ⟨rfl, h64⟩] at HMS
                      clear h64
                      go_wp2
                      go_quiet (fail)
                      go_wp2
                      refine ⟨⟨j + 1, by omega, rfl, by rw [HMS.out]; rfl, T.drewN _, KQ.keep0 ((Touch.refl _ _).drewN _)⟩, by simp [intOf]; omega⟩
                    · have z3 : ¬ (k2.2.size : Int) ≤ 64 := by omega
                      rw [if_neg (fun e => h64 e.2)] at HMS
                      clear h64
                      go_wp2
                      go_quiet (fail)
                      go_wp2
                      refine ⟨⟨j + 1, by omega, rfl, by rw [HMS.out]; rfl, T.drewN _, KQ.keep0 ((Touch.refl _ _).drewN _)⟩, by simp [intOf]; omega⟩
                  · rw [decide_eq_false he] at eqk
                    rw [if_neg (fun e => he e.1)] at HMS
                    clear he
                    go_wp2
                    go_quiet (fail)
                    go_wp2
                    refine ⟨⟨j + 1, by omega, rfl, by rw [HMS.out]; rfl, T.drewN _, KQ.keep0 ((Touch.refl _ _).drewN _)⟩, by simp [intOf]; omega⟩
                · have ej : j = M := by omega
                  subst ej
                  clear hjt hj
                  obtain ⟨hok, kb, off, rfl, c1, c2⟩ := HXI.out wr T
                  have HC := hid (HCT.out wr s g cap XF k KQ hok)
                  have hc5 := cnK_le XF k
                  have hmn := Nat.le_trans (HMN.out k (ks.take j)) (hlen3 j)
                  generalize mny k (ks.take j) = m at *
                  have HK2 := hid (fun w1 (t1 : Touch [] wr w1) => KQ.keep0 t1)
                  clear HX HXI HMN HCT KQ hok HUC HDN HEQ
                  generalize cnK XF k = cc at *
                  have q2 : ¬ (gd : Int) < (cc : Int) := by omega
                  go_upto_region 18 with fail
                  go_cut [77] from 70 to 77 (fun s77 wx => s77 = .bool false ∧ wx = wr)
                  case first =>
                    by_cases h1 : j < n
                    · have z3 : (j : Int) < (n : Int) := by omega
                      have z4 : ¬ (j : Int) < 300 := by omega
                      go_wp2
                      go_meet
                      case rel => exact ⟨rfl, rfl⟩
                    · have z3 : ¬ (j : Int) < (n : Int) := by omega
                      go_wp2
                      go_meet
                      case rel => exact ⟨rfl, rfl⟩
                  case rest =>
                    obtain ⟨rfl, rfl⟩ := hcut
                    by_cases h255 : 255 < m
                    · have q1 : ¬ (cc : Int) < 255 := by omega
                      have q0 : (255 : Int) < (m : Int) := by omega
                      go_wp2_with (go_at_call 23; refine HC.out.mono ?_; rintro e w5 ⟨rfl, t5⟩; have t5 := hid t5)
                      refine ⟨⟨i + 1, by omega, rfl, T.trans' t5.out, HK2.out _ t5.out⟩, by simp [intOf]; omega⟩
                    · have q1 : ¬ (cc : Int) < (m : Int) := by omega
                      have q0 : ¬ (255 : Int) < (m : Int) := by omega
                      go_wp2_with (go_at_call 23; refine HC.out.mono ?_; rintro e w5 ⟨rfl, t5⟩; have t5 := hid t5)
                      refine ⟨⟨i + 1, by omega, rfl, T.trans' t5.out, HK2.out _ t5.out⟩, by simp [intOf]; omega⟩
            · have ei : i = M := by omega
              subst ei
              clear HX HMN HCT KQ HUC HDN HEQ
              go_upto_region 14 with fail
              go_cut [67] from 60 to 67 (fun s67 wx => s67 = .bool false ∧ wx = wr)
              case first =>
                by_cases h1 : i < n
                · have z3 : (i : Int) < (n : Int) := by omega
                  have z4 : ¬ (i : Int) < 300 := by omega
                  go_wp2
                  go_meet
                  case rel => exact ⟨rfl, rfl⟩
                · have z3 : ¬ (i : Int) < (n : Int) := by omega
                  go_wp2
                  go_meet
                  case rel => exact ⟨rfl, rfl⟩
              case rest =>
                obtain ⟨rfl, rfl⟩ := hcut
                go_wp2
                go_ret
                exact ⟨rfl, T⟩
end Go.Proofs.Ytbadlkjffelkhaa.Sk
