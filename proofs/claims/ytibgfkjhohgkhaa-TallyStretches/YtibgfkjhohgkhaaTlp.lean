/- The document's buckets, what it looks back for, its counts, its Waits and Lengths; no conditions but those that each states. -/
import Derived.Test.YtibgfkjhohgkhaaTlo
namespace Go.Proofs.Ytibgfkjhohgkhaa.Ty
open Go.RowKit Go.Maps Go.ChangeMaps
open Tr
set_option linter.unusedVariables false
set_option linter.unusedSimpArgs false
theorem rbucket_ (d : Nat) (hd : d < 9223372036854775808) (w : World) :
    Calls Try.prog 44 #[.int .i64 (d : Int)] w fun r w' => r = .returned (.int .i64 (Lib.bitLen d : Nat)) ∧ w' = w := by
  have hb : Lib.bitLen d ≤ 63 := by
    by_cases e : d = 0
    · rw [e, Ti.bitLen_zero]; omega
    · obtain ⟨m, h, h2, _⟩ := Ti.bitLen_range d e hd; omega
  go_enter Try.func44, Try.ntmps44
  go_wp2
  go_loopw [0, 3] (fun x i wr => ∃ (k c : Nat), x = .int .i64 k ∧ i = .int .i64 c ∧ k < 9223372036854775808 ∧ c + Lib.bitLen k = Lib.bitLen d ∧ wr = w) (fun x _ _ => (intOf x).toNat)
  case atStart => exact ⟨d, 0, rfl, rfl, hd, by omega, rfl⟩
  case round =>
    obtain ⟨k, c, rfl, rfl, hk, hs, rfl⟩ := hrel
    by_cases h0 : k = 0
    · subst h0
      rw [Ti.bitLen_zero] at hs
      have hs2 : c = Lib.bitLen d := by omega
      go_wp2
      go_ret
      exact ⟨by first | rfl | (rw [hs2]; rfl), rfl⟩
    · have hp : 0 < (k : Int) := by omega
      have hh := Lib.bitLen_half k h0 (by omega)
      have ht : (k : Int).tdiv 2 = ((k / 2 : Nat) : Int) := by rw [Int.tdiv_eq_ediv_of_nonneg (by omega)]; omega
      go_wp2
      go_roundw
      case rel => exact ⟨k / 2, c + 1, congrArg _ (by omega), congrArg _ (by omega), by omega, by omega, trivial⟩
      case measure => simp [intOf]; omega
/-- What is counted, where there is a time. -/
def rc (f : Nat → Int) (o : Option Int) (now : Int) : Nat → Int := match o with | some a => cnt f now a | none => f
def atO (o : Option Int) : Int := o.getD 0
set_option maxHeartbeats 2000000 in
set_option maxRecDepth 20000 in
theorem last_t {w : World} {v : Value} {L : List Ez} (h : Ev w v L) (hl : L.length ≤ 2000) (i : Nat) (hi : i ≤ L.length) (m : Int) (o : Option Int) (ho : o = (tL true (L.take i)).g m) :
    Calls Try.prog 31 #[v, .int .i64 (i : Int), .int .i64 1, .int .i64 m, .bool true] w fun r w' => r = .returned (.tuple #[.int .i64 (atO o), .bool o.isSome]) ∧ Touch [] w w' := by
  have H := hid h
  have HO := hid ho
  clear ho
  obtain ⟨a, c, rfl, hc, hrow⟩ := h
  clear hrow
  obtain ⟨n, hn⟩ : ∃ n, L.length = n := ⟨_, rfl⟩
  have HN := hid hn
  rw [hn] at hl hi hc ⊢
  clear hn
  go_enter Try.func31, Try.ntmps31
  go_wp2
  go_loopw [12] (fun x wr => ∃ j : Nat, x = .int .i64 ((j : Int) - 1) ∧ j ≤ i ∧ Hid (o = (tL true (L.take j)).g m) ∧ Hid (Touch [] w wr)) (fun x _ => (intOf x + 1).toNat)
  case atStart => exact ⟨i, rfl, Nat.le_refl _, HO, hid (Touch.refl [] w)⟩
  case round =>
    obtain ⟨j, rfl, hj, HJ, HT⟩ := hrel
    cases j with
    | zero =>
      have e0 : o = none := HJ.out
      subst e0
      rw [show (((0 : Nat) : Int) - 1) = -1 from rfl]
      go_wp2
      go_ret2
      exact ⟨rfl, HT.out⟩
    | succ k =>
      rw [show (((k + 1 : Nat) : Int) - 1) = (k : Int) by omega]
      obtain ⟨e, he⟩ : ∃ e, L[k]? = some e := ⟨_, List.getElem?_eq_getElem (by rw [HN.out]; omega)⟩
      have HSN := hid (show (tL true (L.take (k + 1))).g m = (tS true (tL true (L.take k)) e).g m by rw [List.take_add_one, he]; exact congrArg (fun s => Tb.g s m) (tL_snoc _ _ _))
      obtain ⟨g, off, rfl, hg, c0, c1, c2, c3, c4, c5, c6, c7, c8, c9, c10, c11, c12⟩ := (H.out.keep HT.out).at_ he
      by_cases h1 : e.kd = 1
      · by_cases h2 : e.ca = m
        · have HR := hid (show o = some e.at_ from by rw [HJ.out, HSN.out]; unfold tS; dsimp only; rw [if_pos (show e.kd = fr true from h1)]; exact if_pos (show m = nb true e from h2.symm))
          rw [h1] at c1
          rw [h2] at c3
          go_wp2
          go_ret2
          exact ⟨by rw [HR.out]; rfl, HT.out.alloc _⟩
        · have HR := hid (show o = (tL true (L.take k)).g m from by rw [HJ.out, HSN.out]; unfold tS; dsimp only; rw [if_pos (show e.kd = fr true from h1)]; exact if_neg (show ¬ m = nb true e from fun x => h2 x.symm))
          have h2b : (e.ca == m) = false := by simpa using h2
          rw [h1] at c1
          go_wp2
          go_roundw
          case rel => exact ⟨k, rfl, by omega, HR, hid (HT.out.alloc _)⟩
          case measure => first | (simp [intOf]; done) | (simp [intOf]; omega)
      · have HR := hid (show o = (tL true (L.take k)).g m from by rw [HJ.out, HSN.out]; unfold tS; dsimp only; rw [if_neg (show ¬ e.kd = fr true from h1)])
        have h1b : (e.kd == 1) = false := by simpa using h1
        go_wp2
        go_roundw
        case rel => exact ⟨k, rfl, by omega, HR, hid (HT.out.alloc _)⟩
        case measure => first | (simp [intOf]; done) | (simp [intOf]; omega)
set_option maxHeartbeats 2000000 in
set_option maxRecDepth 20000 in
theorem last_f {w : World} {v : Value} {L : List Ez} (h : Ev w v L) (hl : L.length ≤ 2000) (i : Nat) (hi : i ≤ L.length) (m : Int) (o : Option Int) (ho : o = (tL false (L.take i)).g m) :
    Calls Try.prog 31 #[v, .int .i64 (i : Int), .int .i64 2, .int .i64 m, .bool false] w fun r w' => r = .returned (.tuple #[.int .i64 (atO o), .bool o.isSome]) ∧ Touch [] w w' := by
  have H := hid h
  have HO := hid ho
  clear ho
  obtain ⟨a, c, rfl, hc, hrow⟩ := h
  clear hrow
  obtain ⟨n, hn⟩ : ∃ n, L.length = n := ⟨_, rfl⟩
  have HN := hid hn
  rw [hn] at hl hi hc ⊢
  clear hn
  go_enter Try.func31, Try.ntmps31
  go_wp2
  go_loopw [12] (fun x wr => ∃ j : Nat, x = .int .i64 ((j : Int) - 1) ∧ j ≤ i ∧ Hid (o = (tL false (L.take j)).g m) ∧ Hid (Touch [] w wr)) (fun x _ => (intOf x + 1).toNat)
  case atStart => exact ⟨i, rfl, Nat.le_refl _, HO, hid (Touch.refl [] w)⟩
  case round =>
    obtain ⟨j, rfl, hj, HJ, HT⟩ := hrel
    cases j with
    | zero =>
      have e0 : o = none := HJ.out
      subst e0
      rw [show (((0 : Nat) : Int) - 1) = -1 from rfl]
      go_wp2
      go_ret2
      exact ⟨rfl, HT.out⟩
    | succ k =>
      rw [show (((k + 1 : Nat) : Int) - 1) = (k : Int) by omega]
      obtain ⟨e, he⟩ : ∃ e, L[k]? = some e := ⟨_, List.getElem?_eq_getElem (by rw [HN.out]; omega)⟩
      have HSN := hid (show (tL false (L.take (k + 1))).g m = (tS false (tL false (L.take k)) e).g m by rw [List.take_add_one, he]; exact congrArg (fun s => Tb.g s m) (tL_snoc _ _ _))
      obtain ⟨g, off, rfl, hg, c0, c1, c2, c3, c4, c5, c6, c7, c8, c9, c10, c11, c12⟩ := (H.out.keep HT.out).at_ he
      by_cases h1 : e.kd = 2
      · by_cases h2 : e.ru = m
        · have HR := hid (show o = some e.at_ from by rw [HJ.out, HSN.out]; unfold tS; dsimp only; rw [if_pos (show e.kd = fr false from h1)]; exact if_pos (show m = nb false e from h2.symm))
          rw [h1] at c1
          rw [h2] at c4
          go_wp2
          go_ret2
          exact ⟨by rw [HR.out]; rfl, HT.out.alloc _⟩
        · have HR := hid (show o = (tL false (L.take k)).g m from by rw [HJ.out, HSN.out]; unfold tS; dsimp only; rw [if_pos (show e.kd = fr false from h1)]; exact if_neg (show ¬ m = nb false e from fun x => h2 x.symm))
          have h2b : (e.ru == m) = false := by simpa using h2
          rw [h1] at c1
          go_wp2
          go_roundw
          case rel => exact ⟨k, rfl, by omega, HR, hid (HT.out.alloc _)⟩
          case measure => first | (simp [intOf]; done) | (simp [intOf]; omega)
      · have HR := hid (show o = (tL false (L.take k)).g m from by rw [HJ.out, HSN.out]; unfold tS; dsimp only; rw [if_neg (show ¬ e.kd = fr false from h1)])
        have h1b : (e.kd == 2) = false := by simpa using h1
        go_wp2
        go_roundw
        case rel => exact ⟨k, rfl, by omega, HR, hid (HT.out.alloc _)⟩
        case measure => first | (simp [intOf]; done) | (simp [intOf]; omega)
theorem rc_eq (f : Nat → Int) (o : Option Int) (now : Int) : rc f o now = if o.isSome = true ∧ 0 ≤ atO o ∧ atO o ≤ now ∧ now ≤ 4611686018427387904 then fset f (bk (now - atO o)) (f (bk (now - atO o)) + 1) else f := by
  cases o with
  | none => rfl
  | some a =>
    unfold rc cnt atO
    simp only [Option.isSome_some, Option.getD_some, true_and, Ti.isT, decide_eq_true_eq]
    by_cases h : 0 ≤ a ∧ a ≤ now ∧ now ≤ 4611686018427387904
    · rw [if_pos h, if_pos (by omega)]
    · rw [if_neg h, if_neg (by omega)]
set_option maxHeartbeats 2000000 in
set_option maxRecDepth 20000 in
theorem rcount_ {f : Nat → Int} (hf : ∀ j, 0 ≤ f j ∧ f j ≤ 1000000000000) (o : Option Int) (now : Int) (w : World) :
    Calls Try.prog 32 #[.agg (ic 64 f), .int .i64 (atO o), .int .i64 now, .bool o.isSome] w fun r w' => r = .returned (.agg (ic 64 (rc f o now))) ∧ Touch [] w w' := by
  obtain ⟨w2, e2⟩ : ∃ w2, w2 = (w.alloc (.cells (ic 64 f) 37)).alloc (.cells (ic 64 z0) 37) := ⟨_, rfl⟩
  have hT : Touch [] w w2 := by rw [e2]; exact ((Touch.refl [] w).alloc _).alloc _
  have hs : w2.heap.size = w.heap.size + 2 := by rw [e2]; simp
  have r1 : Row w2 w.heap.size 64 f 37 := by
    rw [e2]
    exact (show Row _ w.heap.size 64 f 37 from heap_alloc_new w _).keep ((Touch.refl [] _).alloc _) (by simp)
  have r2 : Row w2 (w.heap.size + 1) 64 z0 37 := by
    rw [e2]
    have := heap_alloc_new (w.alloc (.cells (ic 64 f) 37)) (.cells (ic 64 z0) 37)
    rw [show (w.alloc (.cells (ic 64 f) 37)).heap.size = w.heap.size + 1 by simp] at this
    exact this
  have HT := hid hT
  have HF := hid hf
  have R1 := hid r1
  have R2 := hid r2
  clear hT hs r1 r2 hf
  have hrc := rc_eq f o now
  obtain ⟨x, hx⟩ : ∃ x, atO o = x := ⟨_, rfl⟩
  obtain ⟨b, hb⟩ : ∃ b, o.isSome = b := ⟨_, rfl⟩
  rw [hx, hb] at hrc ⊢
  obtain ⟨F, hF⟩ : ∃ F, rc f o now = F := ⟨_, rfl⟩
  rw [hF] at hrc ⊢
  clear hF hx hb
  by_cases hall : b = true ∧ 0 ≤ x ∧ x ≤ now ∧ now ≤ 4611686018427387904
  · rw [if_pos hall] at hrc
    obtain ⟨rfl, h1, h2, h3⟩ := hall
    have hk := bk_lt (d := now - x) (by omega) (by omega)
    have HBK := hid (fun w' => rbucket_ (now - x).toNat (by omega) w')
    have hBK : ∀ w', Calls Try.prog 44 #[.int .i64 (now - x)] w' fun r w2 => r = .returned (.int .i64 (bk (now - x) : Nat)) ∧ w2 = w' := fun w' => by
      have := HBK.out w'
      rw [show (((now - x).toNat : Nat) : Int) = now - x by omega] at this
      exact this
    have HBK := hid hBK
    have HRC := hid hrc
    clear hBK hrc
    generalize bk (now - x) = k at *
    obtain ⟨f0, f1⟩ := HF.out k
    have HR3 := hid (show ∀ w3, w3 = w2.setCell ⟨w.heap.size, k, none⟩ (.int .i64 (f k + 1)) → Row w3 w.heap.size 64 F 37 ∧ Row w3 (w.heap.size + 1) 64 z0 37 ∧ Touch [] w w3 from fun w3 hw => by
      have t2 : Touch [w.heap.size] w2 w3 := by rw [hw]; exact (Touch.refl _ _).setCell (Or.inl (by simp)) _
      exact ⟨by rw [hw, HRC.out]; exact R1.out.set (by omega) _, R2.out.keep t2 (by simp), HT.out.trans t2 (fun i hi => Or.inr (by simp at hi; omega))⟩)
    have hz := R1.out.cell (i := k) (by omega)
    have hfz := R1.out.froz k
    clear R1 R2 HF HT
    generalize f k = z at *
    have hsub : IntKind.i64.wrap (now - x) = now - x := by rw [IntKind.wrap_i64]; omega
    go_enter Try.func32, Try.ntmps32
    go_upto_region 1 with fail
    refine wp_world e2 ?_
    clear e2
    go_wp2_with (first | (go_at_call 44; refine (HBK.out _).mono ?_; rintro r w4 ⟨rfl, hw4⟩; subst w4) | (refine wpList_st1 rfl _ _ rfl w.heap.size k (z + 1) z rfl rfl hz hfz ?_; intro w3 hw3; obtain ⟨r3, r4, t4⟩ := HR3.out _ hw3; have R3 := hid r3; have R4 := hid r4; have T4 := hid t4; clear hw3 r3 r4 t4 hz hfz HR3) | (refine wpList_loadT big64 rfl _ rfl w.heap.size (ic 64 F) 37 (0, 0) rfl R3.out (ic_size _ _) ?_) | (refine wpList_storeT big64 rfl _ _ rfl (w.heap.size + 1) (ic 64 z0) (ic 64 F) 37 rfl rfl R4.out (ic_size _ _) (ic_size _ _) ic_one ?_; intro w5 h5 t5 s5; have H5 := hid h5; have T5 := hid (T4.out.trans t5 (fun i hi => Or.inr (by simp at hi; omega))); clear h5 t5 s5))
    exact bodyPost_ret (v := .agg (ic 64 F)) (res_cell (fn := Try.f32) (p := 8) rfl big64 _ rfl H5.out (ic_size _ _)) rfl ⟨rfl, T5.out⟩
  · rw [if_neg hall] at hrc
    subst F
    have hcond : (b && decide (0 ≤ x) && decide (x ≤ now) && decide (now ≤ 4611686018427387904)) = false := by
      cases b <;> simp_all
    go_enter Try.func32, Try.ntmps32
    go_upto_region 1 with fail
    refine wp_world e2 ?_
    clear e2 HF
    have fin : ∀ a : Go.Act, a.tmps[4]? = some (.pointer (some ⟨w.heap.size, 0, none⟩)) → True := fun _ _ => trivial
    cases b with
    | false =>
      clear hall hcond
      go_wp2_with (first | (refine wpList_loadT big64 rfl _ rfl w.heap.size (ic 64 f) 37 (0, 0) rfl R1.out (ic_size _ _) ?_) | (refine wpList_storeT big64 rfl _ _ rfl (w.heap.size + 1) (ic 64 z0) (ic 64 f) 37 rfl rfl R2.out (ic_size _ _) (ic_size _ _) ic_one ?_; intro w5 h5 t5 s5; have H5 := hid h5; have T5 := hid (HT.out.trans t5 (fun i hi => Or.inr (by simp at hi; omega))); clear h5 t5 s5))
      exact bodyPost_ret (v := .agg (ic 64 f)) (res_cell (fn := Try.f32) (p := 8) rfl big64 _ rfl H5.out (ic_size _ _)) rfl ⟨rfl, T5.out⟩
    | true =>
      clear hcond
      have hall : ¬ 0 ≤ x ∨ (0 ≤ x ∧ ¬ x ≤ now) ∨ (0 ≤ x ∧ x ≤ now ∧ ¬ now ≤ 4611686018427387904) := by
        by_cases h1 : 0 ≤ x <;> by_cases h2 : x ≤ now <;> simp_all
      rcases hall with h1 | ⟨h1, h2⟩ | ⟨h1, h2, h3⟩
      all_goals (
        go_wp2_with (first | (refine wpList_loadT big64 rfl _ rfl w.heap.size (ic 64 f) 37 (0, 0) rfl R1.out (ic_size _ _) ?_) | (refine wpList_storeT big64 rfl _ _ rfl (w.heap.size + 1) (ic 64 z0) (ic 64 f) 37 rfl rfl R2.out (ic_size _ _) (ic_size _ _) ic_one ?_; intro w5 h5 t5 s5; have H5 := hid h5; have T5 := hid (HT.out.trans t5 (fun i hi => Or.inr (by simp at hi; omega))); clear h5 t5 s5))
        exact bodyPost_ret (v := .agg (ic 64 f)) (res_cell (fn := Try.f32) (p := 8) rfl big64 _ rfl H5.out (ic_size _ _)) rfl ⟨rfl, T5.out⟩)
end Go.Proofs.Ytibgfkjhohgkhaa.Ty
