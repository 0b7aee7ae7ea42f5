/- The contract of the document's keysOf: the keys of entries; the list has at most 70000. -/
import Derived.Test.YtpefbmheblfbeaaGreatQt08
namespace Go.Proofs.YtpefbmheblfbeaaGreat.Sn
open Go.RowKit Go.Sort Go.Shelf Me
set_option linter.unusedVariables false
set_option linter.unusedSimpArgs false
def kcs (ks : List K) : List Value := ks.flatMap (fun k => [.int .u16 k.1, .string k.2])
theorem kcs_snoc (ks : List K) (k : K) : kcs (ks ++ [k]) = kcs ks ++ [.int .u16 k.1, .string k.2] := by unfold kcs; simp
theorem infoRk : (Tryz.prog.info? 83).map (fun i => (i.zero, i.size, i.bytes)) = some (some (.agg #[.int .u16 0, .string ⟨#[]⟩]), 2, 24) := by kernel_rfl
set_option maxHeartbeats 2000000 in
theorem dkeys_ {w : World} {xs : List En} {v : Value} (hv : RN 88 w v xs) (hl : xs.length ≤ 70000) : Calls Tryz.prog 52 #[v] w fun e w' => ∃ u, e = .returned u ∧ w'.ownsRow w.heap.size 83 2 u (keysL xs).length (kcs (keysL xs)) ∧ Touch [] w w' := by
  obtain ⟨a, cp, rfl, hnc, hat⟩ := id hv
  obtain ⟨n, hn'⟩ : ∃ n, n = xs.length := ⟨_, rfl⟩
  rw [← hn'] at hv ⊢
  have HN := hid hn'
  have HN7 : Hid (n ≤ 70000) := hid (by omega)
  have HG : Hid (0 < n → ∃ g off, a = some ⟨g, off, none⟩) := hid (fun hp => by obtain ⟨g, off, e, _⟩ := hat (by omega); exact ⟨g, off, e⟩)
  have HR := hid (fun w1 (t1 : Touch [] w w1) => RN.keep hv t1)
  have H0 : Hid (Touch [] w (w.alloc (.cells #[] 83)) ∧ (w.alloc (.cells #[] 83)).ownsRow w.heap.size 83 2 (.slice (some ⟨w.heap.size, 0, none⟩) 0 0) 0 (kcs ((keysL xs).take 0))) := hid ⟨(Touch.refl _ _).alloc _, World.ownsRow_made (e := 83) (size := 2) w #[] 0 (Nat.le_refl _) (by unfold maxLen; omega) rfl⟩
  have HKL : Hid ((keysL xs).length = n) := hid (by rw [hn']; simp [keysL])
  clear hv hat hnc hl hn'
  go_enter Tryz.func52, Tryz.ntmps52
  go_wp2
  go_loopw [3, 5, 9] (fun s3 _ s9 wr => ∃ (p : Nat) (b : Option Addr) (c : Nat), s9 = .int .i64 p ∧ p ≤ n ∧ s3 = .slice b p c ∧ Hid (Touch [] w wr ∧ wr.ownsRow w.heap.size 83 2 (.slice b p c) p (kcs ((keysL xs).take p)))) (fun _ _ s9 _ => n - (intOf s9).toNat)
  case atStart => exact ⟨0, _, 0, rfl, Nat.zero_le _, rfl, H0⟩
  case round =>
    clear H0
    obtain ⟨p, b, c, rfl, hp, rfl, HI⟩ := hrel
    by_cases hlt : p < n
    · have zp : (p : Int) < (n : Int) := by omega
      have hix : p < xs.length := by have := HN.out; omega
      obtain ⟨g, off, rfl⟩ := HG.out (by omega)
      have hat := (HR.out _ HI.out.1).at1 (by omega)
      have r0 := hat.cell p 0 hix (by omega) rfl
      have r1 := hat.cell p 1 hix (by omega) rfl
      have r2 := hat.cell p 2 hix (by omega) rfl
      have r3 := hat.cell p 3 hix (by omega) rfl
      have r4 := hat.cell p 4 hix (by omega) rfl
      have r5 := hat.cell p 5 hix (by omega) rfl
      have r6 := hat.cell p 6 hix (by omega) rfl
      rw [Nat.add_zero] at r0
      simp only [← Nat.add_assoc] at r1 r2 r3 r4 r5 r6
      have HTK : Hid (kcs ((keysL xs).take (p + 1)) = kcs ((keysL xs).take p) ++ [.int .u16 xs[p].1.1, .string xs[p].1.2]) := hid (by
        have e : (keysL xs).take (p + 1) = (keysL xs).take p ++ [xs[p].1] := by
          rw [List.take_succ_eq_append_getElem (by simpa [keysL] using hix)]; simp [keysL]
        rw [e, kcs_snoc])
      have wp1 : IntKind.i64.wrap ((p : Int) + 1) = (p : Int) + 1 := by rw [IntKind.wrap_i64]; have := HN7.out; omega
      have HNk := hid (And.intro hp hlt)
      generalize xs[p] = x at *
      obtain ⟨W1, hW1⟩ : ∃ W1, W1 = wr.alloc (.cells #[.int .u16 x.1.1, .string x.1.2, .int .i64 x.2.1.1, .int .i64 x.2.1.2.1, .int .i64 x.2.1.2.2.1, .int .i64 x.2.1.2.2.2, .int .i64 x.2.2] 88) := ⟨_, rfl⟩
      have tW : Touch [] wr W1 := by rw [hW1]; exact (Touch.refl _ _).alloc _
      have hbx : W1.heap[wr.heap.size]? = some (.cells #[.int .u16 x.1.1, .string x.1.2, .int .i64 x.2.1.1, .int .i64 x.2.1.2.1, .int .i64 x.2.1.2.2.1, .int .i64 x.2.1.2.2.2, .int .i64 x.2.2] 88 (0, 0)) := by rw [hW1]; exact heap_alloc_new wr _
      have x0 := cell_of (n := 0) hbx rfl
      have x1 := cell_of (n := 1) hbx rfl
      have HA : Hid (∀ w2, Touch [] W1 w2 → w2.ownsRow w.heap.size 83 2 (.slice b p c) p (kcs ((keysL xs).take p)) ∧ w.heap.size ≤ w2.heap.size ∧ Touch [] w w2) := hid (fun w2 t2 => ⟨own_touch HI.out.2 (tW.trans' t2) (fun _ _ e => by cases e), (HI.out.1.trans' (tW.trans' t2)).size, HI.out.1.trans' (tW.trans' t2)⟩)
      clear hat hbx hp hlt tW hix HI
      generalize kcs ((keysL xs).take p) = vs at *
      go_upto_region 5 with fail
      rw [← hW1]
      clear hW1 r0 r1 r2 r3 r4 r5 r6
      go_wp2_with (at_builtin; refine wpList_append_rs rfl _ _ 119 83 rfl _ 2 24 infoRk Tryz.underlying119 rfl (by decide) w.heap.size (.slice b p c) p vs rfl (HA.out _ ((Touch.refl _ _).alloc _)).1 (.slice (some ⟨W1.heap.size, 0, none⟩) 1 1) 1 _ rfl (Rs.new W1 #[.int .u16 x.1.1, .string x.1.2] 83 2 rfl) (by simp [Value.oneCell']) (by unfold maxLen; have := HN7.out; have := HNk.out; omega) (by have := HN7.out; have := HNk.out; omega) (HA.out _ ((Touch.refl _ _).alloc _)).2.1 ?_; intro v6 w6 o6 g6 _; obtain ⟨a6, c6, e6, _⟩ := (Rs.of_own o6).form; subst e6; have O6 := hid o6; have T6 := hid (touch_grown (HA.out _ ((Touch.refl _ _).alloc _)).2.2 g6 (HA.out _ ((Touch.refl _ _).alloc _)).1 (Nat.le_refl _)); clear o6 g6)
      go_roundw
      case rel => exact ⟨p + 1, a6, c6, by go_num, by have := HNk.out; omega, rfl, hid ⟨T6.out, by rw [HTK.out]; exact O6.out⟩⟩
      case measure => simp [intOf]; have := HNk.out; omega
    · have zp : ¬ (p : Int) < (n : Int) := by omega
      have HZ : Hid (wr.ownsRow w.heap.size 83 2 (.slice b p c) (keysL xs).length (kcs (keysL xs)) ∧ Touch [] w wr) := hid (by
        have e : p = (keysL xs).length := by have := HKL.out; omega
        have q := HI.out.2
        rw [List.take_of_length_le (by omega)] at q
        rw [e] at q ⊢
        exact ⟨q, HI.out.1⟩)
      clear HI
      go_wp2
      go_ret
      exact ⟨_, rfl, HZ.out⟩
end Go.Proofs.YtpefbmheblfbeaaGreat.Sn
/- The contract of the document's takeKey: the next key, that is none of those ahead; the text's length is a number of the language's, the reader stands within the text. -/
namespace Go.Proofs.YtpefbmheblfbeaaGreat.Sn
open Go.RowKit Go.Sort Go.Shelf Me
set_option linter.unusedVariables false
set_option linter.unusedSimpArgs false
theorem kcs_at {A : List K} {p : Nat} (h : p < A.length) : (kcs A)[p * 2]? = some (.int .u16 A[p].1) ∧ (kcs A)[p * 2 + 1]? = some (.string A[p].2) := by
  have h0 := flat_at (f := fun k : K => [Value.int .u16 k.1, .string k.2]) (k := 2) (fun _ => rfl) A p 0 A[p] (List.getElem?_eq_getElem h) (by omega)
  have h1 := flat_at (f := fun k : K => [Value.int .u16 k.1, .string k.2]) (k := 2) (fun _ => rfl) A p 1 A[p] (List.getElem?_eq_getElem h) (by omega)
  unfold kcs
  exact ⟨by simpa using h0, by simpa using h1⟩
theorem hs_take {A : List K} {p : Nat} (h : p < A.length) (k : K) : hs (A.take (p + 1)) k = (hs (A.take p) k || decide (A[p] = k)) := by
  rw [List.take_succ_eq_append_getElem h]
  unfold hs
  rw [List.any_append]
  simp
theorem keyR_parts (s : ByteArray) (x : Rd) (A : List K) : ∃ (kk : K) (nx : Int) (th : Bool), takKV (takK s x.at_) = .tuple #[.agg #[.int .u16 kk.1, .string kk.2], .int .i64 nx, .bool th] ∧ (x.er = 0 → keyR s x A = if (th && !hs A kk) = true then (⟨nx, 0⟩, kk) else (⟨x.at_, 200⟩, zk)) := by
  obtain ⟨kk, nx, th, h1, h2, h3⟩ := takKV_parts (takK s x.at_)
  refine ⟨kk, nx, th, h1, fun he => ?_⟩
  unfold keyR
  cases th with
  | false =>
    rw [(h3 rfl).1]
    simp only [Bool.false_and, Bool.false_eq_true, if_false]
    rw [passS_ok he]; rfl
  | true =>
    rw [h2 rfl]
    simp only [Bool.true_and]
    cases hs A kk with
    | true => simp [passS_ok he]
    | false => simp [passS_ok he, passB_ok he]
set_option maxRecDepth 20000 in
set_option maxHeartbeats 2000000 in
theorem dkey_bad (w : World) (s : ByteArray) (x : Rd) (A : List K) (he : ¬ x.er = 0) (a : Option Addr) (n c : Nat) : Calls Tryz.prog 69 #[rv s x, .slice a n c] w fun e w' => e = .returned (.tuple #[rv s (keyR s x A).1, kv (keyR s x A).2]) ∧ Touch [] w w' := by
  have e : keyR s x A = (x, zk) := by
    unfold keyR
    split
    · split
      · rw [passS_bad he]
      · rw [passS_bad he, passB_bad he]; rfl
    · rw [passS_bad he]
  rw [e]
  unfold rv kv zk
  have hb : (x.er != 0) = true := by simpa using he
  have hb' : (x.er == 0) = false := by simpa using he
  clear e
  go_enter Tryz.func69, Tryz.ntmps69
  go_wp2
  exact bodyPost_ret (v := .tuple #[.agg #[.string s, .int .i64 x.at_, .int .i64 x.er], .agg #[.int .u16 0, .string ⟨#[]⟩]]) (by simp [results, Tryz.results69, go_sem]) rfl ⟨rfl, by repeat (first | exact Touch.refl _ _ | (refine Touch.setCell ?_ (Or.inr (by simp)) _) | (refine Touch.alloc ?_ _))⟩
set_option maxRecDepth 20000 in
set_option maxHeartbeats 4000000 in
theorem dkey_ok {w : World} {s : ByteArray} {x : Rd} {A : List K} {B : Nat} {v : Value} (hi : Rin s x) (hs : s.size ≤ 140737488351232) (hA : A.length ≤ 70000) (hv : w.ownsRow B 83 2 v A.length (kcs A)) (he : x.er = 0) : Calls Tryz.prog 69 #[rv s x, v] w fun e w' => e = .returned (.tuple #[rv s (keyR s x A).1, kv (keyR s x A).2]) ∧ Touch [] w w' := by
  obtain ⟨a, c, rfl⟩ := own_form hv
  obtain ⟨kk, nx, th, ht, hk⟩ := keyR_parts s x A
  have HT := hid (fun w => rktake_ w s x.at_ (by omega) (by have := hi.2; omega))
  rw [ht] at HT
  obtain ⟨zz, hzz⟩ : ∃ zz, zz = keyR s x A := ⟨_, rfl⟩
  have HZZ := hid (hzz.trans (hk he))
  rw [← hzz]
  clear ht hk hzz
  obtain ⟨V, hV⟩ : ∃ V, V = ((w.alloc (.cells #[.string s, .int .i64 x.at_, .int .i64 0] 113)).alloc (.cells #[.string ⟨#[]⟩, .int .i64 0, .int .i64 0] 113)).alloc (.cells #[.int .u16 0, .string ⟨#[]⟩] 83) := ⟨_, rfl⟩
  have TV : Touch [] w V := by rw [hV]; exact (((Touch.refl _ _).alloc _).alloc _).alloc _
  have b0 : V.heap[w.heap.size]? = some (.cells #[.string s, .int .i64 x.at_, .int .i64 0] 113 (0, 0)) := by rw [hV]; exact (((Touch.refl [] _).alloc _).alloc _).keep (heap_alloc_new w _) (by simp)
  have b1 : V.heap[w.heap.size + 1]? = some (.cells #[.string ⟨#[]⟩, .int .i64 0, .int .i64 0] 113 (0, 0)) := by
    have := ((Touch.refl [] _).alloc (.cells #[.int .u16 0, .string ⟨#[]⟩] 83)).keep (heap_alloc_new (w.alloc (.cells #[.string s, .int .i64 x.at_, .int .i64 0] 113)) (.cells #[.string ⟨#[]⟩, .int .i64 0, .int .i64 0] 113)) (by simp)
    rw [hV]; simpa using this
  have b2 : V.heap[w.heap.size + 2]? = some (.cells #[.int .u16 0, .string ⟨#[]⟩] 83 (0, 0)) := by
    have := heap_alloc_new ((w.alloc (.cells #[.string s, .int .i64 x.at_, .int .i64 0] 113)).alloc (.cells #[.string ⟨#[]⟩, .int .i64 0, .int .i64 0] 113)) (.cells #[.int .u16 0, .string ⟨#[]⟩] 83)
    rw [hV]; simpa using this
  have x0 := cell_of (n := 0) b0 rfl
  have x1 := cell_of (n := 1) b0 rfl
  have x2 := cell_of (n := 2) b0 rfl
  have HRW : Hid (∀ w', Touch [] V w' → ∀ p (hp : p < A.length), ∃ g, a = some ⟨g, 0, none⟩ ∧ w'.cell? ⟨g, p * 2, none⟩ = some (.int .u16 A[p].1) ∧ w'.cell? ⟨g, p * 2 + 1, none⟩ = some (.string A[p].2)) := hid (fun w' t p hp => by
    obtain ⟨g, rfl⟩ := own_addr hv (by omega)
    have hv' := own_touch hv (TV.trans' t) (fun _ _ e => by cases e)
    exact ⟨g, rfl, own_cell hv' (kcs_at hp).1, own_cell hv' (kcs_at hp).2⟩)
  obtain ⟨n, hn⟩ : ∃ n, n = A.length := ⟨_, rfl⟩
  rw [← hn]
  have HN := hid hn
  have HN7 : Hid (n ≤ 70000) := hid (by omega)
  have HTV := hid TV
  have HB0 := hid b0
  have HB1 := hid b1
  have HB2 := hid b2
  unfold rv
  rw [he]
  clear hi hs hA hv TV b0 b1 b2 hn
  go_enter Tryz.func69, Tryz.ntmps69
  go_upto_region 1 with fail
  rw [← hV]
  clear hV
  go_upto_region 4 with (go_at_call 110; refine (HT.out _).mono ?_; rintro e w1 ⟨rfl, t1⟩)
  obtain ⟨W1, hW1⟩ : ∃ W1, W1 = w1.alloc (.cells #[.int .u16 kk.1, .string kk.2] 83) := ⟨_, rfl⟩
  obtain ⟨kb, hkb⟩ : ∃ kb, kb = w1.heap.size := ⟨_, rfl⟩
  have tW1 : Touch [] w1 W1 := by rw [hW1]; exact (Touch.refl _ _).alloc _
  have hbk : W1.heap[kb]? = some (.cells #[.int .u16 kk.1, .string kk.2] 83 (0, 0)) := by rw [hW1, hkb]; exact heap_alloc_new w1 _
  have HBK := hid hbk
  have HT1 := hid (t1.trans' tW1)
  have HKB : Hid (w.heap.size + 2 < kb) := hid (by have := block_lt HB2.out; have := t1.size; omega)
  rw [← hW1]
  try rw [← hkb]
  clear hW1 hkb tW1 hbk t1 HT x0 x1 x2
  go_wp2_with fail
  go_loopw [8, 10, 27] (fun s8 _ s27 wr => ∃ (p : Nat) (ok : Bool), s27 = .int .i64 p ∧ p ≤ n ∧ s8 = .bool ok ∧ Hid (ok = (th && !hs (A.take p) kk) ∧ Touch [] W1 wr)) (fun _ _ s27 _ => n - (intOf s27).toNat)
  case atStart => exact ⟨0, th, rfl, Nat.zero_le _, rfl, hid ⟨by simp [hs], Touch.refl _ _⟩⟩
  case round =>
    obtain ⟨p, ok, rfl, hp, rfl, HI⟩ := hrel
    by_cases hlt : p < n
    · have zp : (p : Int) < (n : Int) := by omega
      have hix : p < A.length := by have := HN.out; omega
      obtain ⟨g, rfl, r0, r1⟩ := HRW.out _ (HT1.out.trans' HI.out.2) p hix
      have HHS : Hid ((th && !hs (A.take (p + 1)) kk) = if ok = true then decide (A[p] ≠ kk) else false) := hid (by
        rw [hs_take hix, HI.out.1]
        cases th <;> cases hs (A.take p) kk <;> simp)
      have wp1 : IntKind.i64.wrap ((p : Int) + 1) = (p : Int) + 1 := by rw [IntKind.wrap_i64]; have := HN7.out; omega
      have HNk := hid (And.intro hp hlt)
      have nq := fun w => neqk57 w A[p] kk
      generalize A[p] = y at *
      unfold kv at nq
      obtain ⟨W2, hW2⟩ : ∃ W2, W2 = wr.alloc (.cells #[.int .u16 y.1, .string y.2] 83) := ⟨_, rfl⟩
      have tW : Touch [] wr W2 := by rw [hW2]; exact (Touch.refl _ _).alloc _
      have hbx : W2.heap[wr.heap.size]? = some (.cells #[.int .u16 y.1, .string y.2] 83 (0, 0)) := by rw [hW2]; exact heap_alloc_new wr _
      have hbk2 := (HI.out.2.trans' tW).keep HBK.out (by simp)
      have u0 := cell_of (n := 0) hbx rfl
      have u1 := cell_of (n := 1) hbx rfl
      have k0 := cell_of (n := 0) hbk2 rfl
      have k1 := cell_of (n := 1) hbk2 rfl
      have HW := hid (HI.out.2.trans' tW)
      clear hbx hbk2 hp hlt tW hix
      go_upto_region 7 with fail
      rw [← hW2]
      clear hW2 r0 r1
      cases ok with
      | true =>
        go_wp2_with fail
        go_roundw
        case rel => exact ⟨p + 1, !decide (y = kk), by go_num, by have := HNk.out; omega, rfl, hid ⟨by rw [HHS.out]; simp, HW.out⟩⟩
        case measure => simp [intOf]; have := HNk.out; omega
      | false =>
        go_wp2_with fail
        go_roundw
        case rel => exact ⟨p + 1, false, by go_num, by have := HNk.out; omega, rfl, hid ⟨by rw [HHS.out]; rfl, HW.out⟩⟩
        case measure => simp [intOf]; have := HNk.out; omega
    · have zp : ¬ (p : Int) < (n : Int) := by omega
      have HOK : Hid (ok = (th && !hs A kk)) := hid (by
        have := HI.out.1
        rw [List.take_of_length_le (by have := HN.out; omega)] at this
        exact this)
      have tr := HT1.out.trans' HI.out.2
      have c0 := tr.keep HB0.out (by simp)
      have c1 := tr.keep HB1.out (by simp)
      have c2 := tr.keep HB2.out (by simp)
      have ck := HI.out.2.keep HBK.out (by simp)
      have HTR := hid (HTV.out.trans' tr)
      have d2 := cell_of (n := 2) c0 rfl
      have d1 := cell_of (n := 1) c0 rfl
      have f1 := froz_at c0 1
      have f2 := froz_at c0 2
      have d0 := cell_of (n := 0) c0 rfl
      clear tr HI
      obtain ⟨kr, hkr⟩ : ∃ kr, kr = w.heap.size + 1 + 1 := ⟨_, rfl⟩
      have HKR := hid hkr
      have c2' : wr.heap[kr]? = some (.cells #[.int .u16 0, .string ⟨#[]⟩] 83 (0, 0)) := by rw [hkr]; exact c2
      clear c2
      cases ok with
      | false =>
        go_upto_region 11 with fail
        try rw [← hkr]
        obtain ⟨W3, hW3⟩ : ∃ W3, W3 = wr.setCell ⟨w.heap.size, 2, none⟩ (.int .i64 200) := ⟨_, rfl⟩
        have t1 : Touch [w.heap.size] wr W3 := by rw [hW3]; exact ((Touch.refl [w.heap.size] wr).setCell (p := ⟨w.heap.size, 2, none⟩) (Or.inl (by simp)) (.int .i64 200))
        have hb1d : W3.heap[w.heap.size]? = some (.cells #[.string s, .int .i64 x.at_, .int .i64 200] 113 (0, 0)) := by rw [hW3]; exact (bset (i := 2) c0 (.int .i64 200))
        have hb2d := t1.keep c1 (by simp)
        have hb3d := t1.keep c2' (by simp; omega)
        rw [← hW3]
        clear hW3 d0 d1 d2 f1 f2 hkr
        have x0 := cell_of (n := 0) hb1d rfl
        have x1 := cell_of (n := 1) hb1d rfl
        have x2 := cell_of (n := 2) hb1d rfl
        have y0 := cell_of (n := 0) hb2d rfl
        have y1 := cell_of (n := 1) hb2d rfl
        have y2 := cell_of (n := 2) hb2d rfl
        have g0 := froz_at hb2d 0
        have g1 := froz_at hb2d 1
        have g2 := froz_at hb2d 2
        obtain ⟨W9, hW9⟩ : ∃ W9, W9 = ((W3.setCell ⟨w.heap.size + 1, 0, none⟩ (.string s)).setCell ⟨w.heap.size + 1, 1, none⟩ (.int .i64 x.at_)).setCell ⟨w.heap.size + 1, 2, none⟩ (.int .i64 200) := ⟨_, rfl⟩
        have t9 : Touch [w.heap.size + 1] W3 W9 := by rw [hW9]; exact ((((Touch.refl [w.heap.size + 1] W3).setCell (p := ⟨w.heap.size + 1, 0, none⟩) (Or.inl (by simp)) (.string s)).setCell (p := ⟨w.heap.size + 1, 1, none⟩) (Or.inl (by simp)) (.int .i64 x.at_)).setCell (p := ⟨w.heap.size + 1, 2, none⟩) (Or.inl (by simp)) (.int .i64 200))
        have hb9 : W9.heap[w.heap.size + 1]? = some (.cells #[.string s, .int .i64 x.at_, .int .i64 200] 113 (0, 0)) := by rw [hW9]; exact (bset (i := 2) (bset (i := 1) (bset (i := 0) hb2d (.string s)) (.int .i64 x.at_)) (.int .i64 200))
        have hb10 := t9.keep hb3d (by simp; have := HKR.out; omega)
        have z0 := cell_of (n := 0) hb10 rfl
        have z1 := cell_of (n := 1) hb10 rfl
        have h0 := froz_at hb10 0
        have h1 := froz_at hb10 1
        rw [hW9] at z0 z1 h0 h1
        go_wp2_with fail
        rw [← hW9]
        rw [← hW9] at z0 z1 h0 h1
        clear hW9 x0 x1 x2 y0 y1 y2 g0 g1 g2
        obtain ⟨WA, hWA⟩ : ∃ WA, WA = (W9.setCell ⟨kr, 0, none⟩ (.int .u16 0)).setCell ⟨kr, 1, none⟩ (.string ⟨#[]⟩) := ⟨_, rfl⟩
        have tA : Touch [kr] W9 WA := by rw [hWA]; exact (((Touch.refl [kr] W9).setCell (p := ⟨kr, 0, none⟩) (Or.inl (by simp)) (.int .u16 0)).setCell (p := ⟨kr, 1, none⟩) (Or.inl (by simp)) (.string ⟨#[]⟩))
        have hbA : WA.heap[kr]? = some (.cells #[.int .u16 0, .string ⟨#[]⟩] 83 (0, 0)) := by rw [hWA]; exact (bset (i := 1) (bset (i := 0) hb10 (.int .u16 0)) (.string ⟨#[]⟩))
        have hbB := tA.keep hb9 (by simp; have := HKR.out; omega)
        rw [← hWA]
        clear hWA z0 z1 h0 h1
        have u0 : WA.cell? ⟨w.heap.size + 1, 0, none⟩ = some (.string s) := cell_of hbB rfl
        have u1 : WA.cell? ⟨w.heap.size + 1, 1, none⟩ = some (.int .i64 x.at_) := cell_of hbB rfl
        have u2 : WA.cell? ⟨w.heap.size + 1, 2, none⟩ = some (.int .i64 200) := cell_of hbB rfl
        have v0 : WA.cell? ⟨kr, 0, none⟩ = some (.int .u16 0) := cell_of hbA rfl
        have v1 : WA.cell? ⟨kr, 1, none⟩ = some (.string ⟨#[]⟩) := cell_of hbA rfl
        exact bodyPost_ret (v := .tuple #[.agg #[.string s, .int .i64 x.at_, .int .i64 200], .agg #[.int .u16 0, .string ⟨#[]⟩]]) (by simp [results, Tryz.results69, go_sem, u0, u1, u2, v0, v1]) rfl ⟨by rw [HZZ.out, if_neg (by rw [← HOK.out]; simp)]; rfl, ((HTR.out.trans t1 (fun k hk => by simp at hk; omega)).trans t9 (fun k hk => by simp at hk; omega)).trans tA (fun k hk => by simp at hk; have := HKR.out; omega)⟩
      | true =>
        go_upto_region 13 with fail
        try rw [← hkr]
        obtain ⟨Wd, hWd⟩ : ∃ Wd, Wd = wr.setCell ⟨w.heap.size, 1, none⟩ (.int .i64 nx) := ⟨_, rfl⟩
        have t1 : Touch [w.heap.size] wr Wd := by rw [hWd]; exact ((Touch.refl [w.heap.size] wr).setCell (p := ⟨w.heap.size, 1, none⟩) (Or.inl (by simp)) (.int .i64 nx))
        have g0 : Wd.heap[w.heap.size]? = some (.cells #[.string s, .int .i64 nx, .int .i64 0] 113 (0, 0)) := by rw [hWd]; exact (bset (i := 1) c0 (.int .i64 nx))
        have g4 := t1.keep c1 (by simp)
        have g6 := t1.keep c2' (by simp; omega)
        have gk := t1.keep ck (by simp; have := HKB.out; omega)
        have HTD := hid (HTR.out.trans t1 (fun k hk => by simp at hk; omega))
        have HE1 : Hid (∀ E1, E1 = ((Wd.setCell ⟨w.heap.size + 1, 0, none⟩ (.string s)).setCell ⟨w.heap.size + 1, 1, none⟩ (.int .i64 nx)).setCell ⟨w.heap.size + 1, 2, none⟩ (.int .i64 0) → (E1.heap[w.heap.size]? = some (.cells #[.string s, .int .i64 nx, .int .i64 0] 113 (0, 0)) ∧ E1.heap[kb]? = some (.cells #[.int .u16 kk.1, .string kk.2] 83 (0, 0))) ∧ E1.heap[kr]? = some (.cells #[.int .u16 0, .string ⟨#[]⟩] 83 (0, 0)) ∧ E1.heap[w.heap.size + 1]? = some (.cells #[.string s, .int .i64 nx, .int .i64 0] 113 (0, 0)) ∧ Touch [w.heap.size + 1] Wd E1) := hid (fun E1 hE1 => by
          have t9 : Touch [w.heap.size + 1] Wd E1 := by rw [hE1]; exact ((((Touch.refl [w.heap.size + 1] Wd).setCell (p := ⟨w.heap.size + 1, 0, none⟩) (Or.inl (by simp)) (.string s)).setCell (p := ⟨w.heap.size + 1, 1, none⟩) (Or.inl (by simp)) (.int .i64 nx)).setCell (p := ⟨w.heap.size + 1, 2, none⟩) (Or.inl (by simp)) (.int .i64 0))
          exact ⟨⟨t9.keep g0 (by simp), t9.keep gk (by simp; have := HKB.out; omega)⟩, t9.keep g6 (by simp; have := HKR.out; omega), by rw [hE1]; exact (bset (i := 2) (bset (i := 1) (bset (i := 0) g4 (.string s)) (.int .i64 nx)) (.int .i64 0)), t9⟩)
        have HE2 : Hid (∀ E1 E2, (E1.heap[w.heap.size]? = some (.cells #[.string s, .int .i64 nx, .int .i64 0] 113 (0, 0)) ∧ E1.heap[kb]? = some (.cells #[.int .u16 kk.1, .string kk.2] 83 (0, 0))) → E1.heap[kr]? = some (.cells #[.int .u16 0, .string ⟨#[]⟩] 83 (0, 0)) → E1.heap[w.heap.size + 1]? = some (.cells #[.string s, .int .i64 nx, .int .i64 0] 113 (0, 0)) → E2 = (E1.setCell ⟨kr, 0, none⟩ (.int .u16 kk.1)).setCell ⟨kr, 1, none⟩ (.string kk.2) → (E2.heap[w.heap.size]? = some (.cells #[.string s, .int .i64 nx, .int .i64 0] 113 (0, 0)) ∧ E2.heap[kb]? = some (.cells #[.int .u16 kk.1, .string kk.2] 83 (0, 0))) ∧ E2.heap[kr]? = some (.cells #[.int .u16 kk.1, .string kk.2] 83 (0, 0)) ∧ E2.heap[w.heap.size + 1]? = some (.cells #[.string s, .int .i64 nx, .int .i64 0] 113 (0, 0)) ∧ Touch [kr] E1 E2) := hid (fun E1 E2 s1 g5 h4 hE2 => by
          have t9 : Touch [kr] E1 E2 := by rw [hE2]; exact (((Touch.refl [kr] E1).setCell (p := ⟨kr, 0, none⟩) (Or.inl (by simp)) (.int .u16 kk.1)).setCell (p := ⟨kr, 1, none⟩) (Or.inl (by simp)) (.string kk.2))
          exact ⟨⟨t9.keep s1.1 (by simp; have := HKR.out; omega), t9.keep s1.2 (by simp; have := HKB.out; have := HKR.out; omega)⟩, by rw [hE2]; exact (bset (i := 1) (bset (i := 0) g5 (.int .u16 kk.1)) (.string kk.2)), t9.keep h4 (by simp; have := HKR.out; omega), t9⟩)
        refine wp_region_H (S := fun w' => w'.heap[w.heap.size]? = some (.cells #[.string s, .int .i64 nx, .int .i64 0] 113 (0, 0)) ∧ w'.heap[kb]? = some (.cells #[.int .u16 kk.1, .string kk.2] 83 (0, 0))) (by kernel_rfl) ?_
        rw [← hWd]
        have s0 := And.intro g0 gk
        have X0 : ∀ w' : World, (w'.heap[w.heap.size]? = some (.cells #[.string s, .int .i64 nx, .int .i64 0] 113 (0, 0)) ∧ w'.heap[kb]? = some (.cells #[.int .u16 kk.1, .string kk.2] 83 (0, 0))) → w'.cell? ⟨w.heap.size, 0, none⟩ = some (.string s) := fun w' h => cell_at h.1 rfl
        have X1 : ∀ w' : World, (w'.heap[w.heap.size]? = some (.cells #[.string s, .int .i64 nx, .int .i64 0] 113 (0, 0)) ∧ w'.heap[kb]? = some (.cells #[.int .u16 kk.1, .string kk.2] 83 (0, 0))) → w'.cell? ⟨w.heap.size, 1, none⟩ = some (.int .i64 nx) := fun w' h => cell_at h.1 rfl
        have X2 : ∀ w' : World, (w'.heap[w.heap.size]? = some (.cells #[.string s, .int .i64 nx, .int .i64 0] 113 (0, 0)) ∧ w'.heap[kb]? = some (.cells #[.int .u16 kk.1, .string kk.2] 83 (0, 0))) → w'.cell? ⟨w.heap.size, 2, none⟩ = some (.int .i64 0) := fun w' h => cell_at h.1 rfl
        have Y0 : ∀ w' : World, (w'.heap[w.heap.size]? = some (.cells #[.string s, .int .i64 nx, .int .i64 0] 113 (0, 0)) ∧ w'.heap[kb]? = some (.cells #[.int .u16 kk.1, .string kk.2] 83 (0, 0))) → w'.cell? ⟨kb, 0, none⟩ = some (.int .u16 kk.1) := fun w' h => cell_at h.2 rfl
        have Y1 : ∀ w' : World, (w'.heap[w.heap.size]? = some (.cells #[.string s, .int .i64 nx, .int .i64 0] 113 (0, 0)) ∧ w'.heap[kb]? = some (.cells #[.int .u16 kk.1, .string kk.2] 83 (0, 0))) → w'.cell? ⟨kb, 1, none⟩ = some (.string kk.2) := fun w' h => cell_at h.2 rfl
        clear hWd d0 d1 d2 f1 f2 hkr c0 c1 c2' ck t1 g0 g6 gk
        refine wpH_take (i := 0) (v := (.agg #[.string s, .int .i64 nx, .int .i64 0])) (some 45) rfl rfl (by kernel_rfl) (by kernel_rfl) (by kernel_rfl) (fun _ _ _ h => h) (Or.inl ⟨by rfl, fun w' hS => (by have z0 := X0 _ hS; have z1 := X1 _ hS; have z2 := X2 _ hS; go_simp)⟩) s0 ?_
        try simp only [Go.Act.put, List.setIfInBounds_toArray, List.set_cons_zero, List.set_cons_succ]
        refine wpH_take (i := 1) (v := (.agg #[.int .u16 kk.1, .string kk.2])) (some 46) rfl rfl (by kernel_rfl) (by kernel_rfl) (by kernel_rfl) (fun _ _ _ h => h) (Or.inl ⟨by rfl, fun w' hS => (by have z0 := Y0 _ hS; have z1 := Y1 _ hS; go_simp)⟩) s0 ?_
        try simp only [Go.Act.put, List.setIfInBounds_toArray, List.set_cons_zero, List.set_cons_succ]
        refine wpH_call (i := 2) (o := { dst := none, op := Op.store 113 (Operand.tmp 4) (Operand.tmp 45), type := 0, pos := _, after := #[{ on := 0, ground := Ground.data }, { on := 0, ground := Ground.phase }, { on := 1, ground := Ground.textOnly Departure.lateStores }], guard := none }) (by kernel_rfl) rfl (fun K' hK => ?_)
        rw [if_pos (by rfl)]
        have m0 := cell_of (n := 0) g4 rfl
        have m1 := cell_of (n := 1) g4 rfl
        have m2 := cell_of (n := 2) g4 rfl
        have n0 := froz_at g4 0
        have n1 := froz_at g4 1
        have n2 := froz_at g4 2
        go_simp
        clear m0 m1 m2 n0 n1 n2
        obtain ⟨E1, hE1⟩ : ∃ E1, E1 = ((Wd.setCell ⟨w.heap.size + 1, 0, none⟩ (.string s)).setCell ⟨w.heap.size + 1, 1, none⟩ (.int .i64 nx)).setCell ⟨w.heap.size + 1, 2, none⟩ (.int .i64 0) := ⟨_, rfl⟩
        rw [← hE1]
        obtain ⟨s1, g5, h4, te1⟩ := HE1.out E1 hE1
        clear hE1
        refine hK.out _ _ s1 ?_
        clear hK
        try simp only [Go.Act.put, List.setIfInBounds_toArray, List.set_cons_zero, List.set_cons_succ]
        refine wpH_call (i := 3) (o := { dst := none, op := Op.store 83 (Operand.tmp 5) (Operand.tmp 46), type := 0, pos := _, after := #[{ on := 1, ground := Ground.data }, { on := 2, ground := Ground.chain }, { on := 0, ground := Ground.phase }, { on := 1, ground := Ground.phase }, { on := 2, ground := Ground.phase }], guard := none }) (by kernel_rfl) rfl (fun K' hK => ?_)
        rw [if_pos (by rfl)]
        have m0 := cell_of (n := 0) g5 rfl
        have m1 := cell_of (n := 1) g5 rfl
        have n0 := froz_at g5 0
        have n1 := froz_at g5 1
        go_simp
        clear m0 m1 n0 n1
        obtain ⟨E2, hE2⟩ : ∃ E2, E2 = (E1.setCell ⟨kr, 0, none⟩ (.int .u16 kk.1)).setCell ⟨kr, 1, none⟩ (.string kk.2) := ⟨_, rfl⟩
        rw [← hE2]
        obtain ⟨s2, h5, h4b, te2⟩ := HE2.out E1 E2 s1 g5 h4 hE2
        clear hE2
        refine hK.out _ _ s2 ?_
        clear hK
        try simp only [Go.Act.put, List.setIfInBounds_toArray, List.set_cons_zero, List.set_cons_succ]
        refine wpAnyH_done (by kernel_rfl) ?_ _
        go_wp2_with fail
        have u0 : E2.cell? ⟨w.heap.size + 1, 0, none⟩ = some (.string s) := cell_of h4b rfl
        have u1 : E2.cell? ⟨w.heap.size + 1, 1, none⟩ = some (.int .i64 nx) := cell_of h4b rfl
        have u2 : E2.cell? ⟨w.heap.size + 1, 2, none⟩ = some (.int .i64 0) := cell_of h4b rfl
        have v0 : E2.cell? ⟨kr, 0, none⟩ = some (.int .u16 kk.1) := cell_of h5 rfl
        have v1 : E2.cell? ⟨kr, 1, none⟩ = some (.string kk.2) := cell_of h5 rfl
        exact bodyPost_ret (v := .tuple #[.agg #[.string s, .int .i64 nx, .int .i64 0], .agg #[.int .u16 kk.1, .string kk.2]]) (by simp [results, Tryz.results69, go_sem, u0, u1, u2, v0, v1]) rfl ⟨by rw [HZZ.out, if_pos HOK.out.symm]; rfl, ((HTD.out.trans te1 (fun k hk => by simp at hk; omega)).trans te2 (fun k hk => by simp at hk; have := HKR.out; omega)).drew⟩
theorem dkey_ {w : World} {s : ByteArray} {x : Rd} {A : List K} {B : Nat} {v : Value} (hi : Rin s x) (hs : s.size ≤ 140737488351232) (hA : A.length ≤ 70000) (hv : w.ownsRow B 83 2 v A.length (kcs A)) : Calls Tryz.prog 69 #[rv s x, v] w fun e w' => e = .returned (.tuple #[rv s (keyR s x A).1, kv (keyR s x A).2]) ∧ Touch [] w w' := by
  by_cases he : x.er = 0
  · exact dkey_ok hi hs hA hv he
  · obtain ⟨a, c, rfl⟩ := own_form hv
    exact dkey_bad w s x A he a _ c
end Go.Proofs.YtpefbmheblfbeaaGreat.Sn
/- What an outcome's reading comes to, case by case, as the document's takeEntry goes: behind an error, at the text's end, at a kind that may not be, at a value, at a failure. -/
namespace Go.Proofs.YtpefbmheblfbeaaGreat.Sn
open Go.RowKit Go.Sort Go.Shelf Me
set_option linter.unusedVariables false
set_option linter.unusedSimpArgs false
theorem numR_bad {s : ByteArray} {x : Rd} (h : ¬ x.er = 0) (a b : Int) : numR s x a b = (x, 0) := by unfold numR; rw [if_pos h]
theorem outR_bad {s : ByteArray} {x : Rd} (h : ¬ x.er = 0) (c : Cf) : (outR s x c).1 = x := by
  have hk : (kindR s x c).1 = x := by
    unfold kindR
    split
    · exact passS_bad h _ _
    · exact passS_bad h _ _
  unfold outR sigR
  rw [hk]
  split
  · rw [numR_bad h]
  · rw [numR_bad h, numR_bad h]
theorem outR_no {s : ByteArray} {x : Rd} (h : x.er = 0) (c : Cf) (hk : kindR s x c = (⟨x.at_, 200⟩, 0)) : (outR s x c).1 = ⟨x.at_, 200⟩ := by
  unfold outR sigR
  rw [hk]
  simp only [if_true]
  rw [numR_bad (by simp)]
theorem outR_end {s : ByteArray} {x : Rd} (h : x.er = 0) (c : Cf) (he : s.size ≤ x.at_.toNat) : (outR s x c).1 = ⟨x.at_, 200⟩ := by
  refine outR_no h c ?_
  unfold kindR
  rw [List.getElem?_eq_none (by simpa using he)]
  simp [passS_ok h]
theorem outR_kind {s : ByteArray} {x : Rd} (h : x.er = 0) (c : Cf) {b : UInt8} (hb : s.data.toList[x.at_.toNat]? = some b) (hk : keepB c b.toNat = false) : (outR s x c).1 = ⟨x.at_, 200⟩ := by
  refine outR_no h c ?_
  unfold kindR
  rw [hb]
  simp [passS_ok h, passB_ok h, hk]
theorem outR_val {s : ByteArray} {x : Rd} (h : x.er = 0) (c : Cf) {b : UInt8} (hb : s.data.toList[x.at_.toNat]? = some b) (hk : keepB c b.toNat = true) (h0 : b.toNat = 0) : outR s x c = ((numR s ⟨x.at_ + 1, 0⟩ 0 18446744073709551615).1, (uns (numR s ⟨x.at_ + 1, 0⟩ 0 18446744073709551615).2, 0, 0, 0)) := by
  have e : kindR s x c = (⟨x.at_ + 1, 0⟩, 0) := by
    unfold kindR
    rw [hb]
    simp only [passS_ok h, passB_ok h, hk, if_true]
    rw [h0]
    rfl
  unfold outR sigR
  rw [e]
  simp
theorem outR_fail {s : ByteArray} {x : Rd} (h : x.er = 0) (c : Cf) {b : UInt8} (hb : s.data.toList[x.at_.toNat]? = some b) (hk : keepB c b.toNat = true) (h0 : ¬ b.toNat = 0) : outR s x c = ((numR s (numR s ⟨x.at_ + 1, 0⟩ 0 18446744073709551615).1 1 9223372036854775807).1, (0, (b.toNat : Int), uns (numR s ⟨x.at_ + 1, 0⟩ 0 18446744073709551615).2, (numR s (numR s ⟨x.at_ + 1, 0⟩ 0 18446744073709551615).1 1 9223372036854775807).2)) := by
  have e : kindR s x c = (⟨x.at_ + 1, 0⟩, (b.toNat : Int)) := by
    unfold kindR
    rw [hb]
    simp only [passS_ok h, passB_ok h, hk, if_true]
  unfold outR sigR
  rw [e]
  simp only
  rw [if_neg (by omega)]
end Go.Proofs.YtpefbmheblfbeaaGreat.Sn
/- Of what was read without an error a memo may be made: the configuration is one, the time is one, the keys are unlike, the outcomes are right and kept, their times are not behind. -/
namespace Go.Proofs.YtpefbmheblfbeaaGreat.Sn
open Go.RowKit Go.Sort Go.Shelf Me
set_option linter.unusedVariables false
set_option linter.unusedSimpArgs false
theorem numR_in {s : ByteArray} {x : Rd} {a b : Int} (h : (numR s x a b).1.er = 0) : a ≤ (numR s x a b).2 ∧ (numR s x a b).2 ≤ b := by
  have he := numR_er h
  unfold numR at h ⊢
  rw [if_neg (by simpa using he)] at h ⊢
  cases ht : takeAt s x.at_ with
  | none => rw [ht] at h; simp at h
  | some p =>
    rw [ht] at h
    simp only at h ⊢
    split at h
    · rename_i hq
      rw [if_pos hq]
      exact hq
    · simp at h
theorem takK_s {s : ByteArray} {a : Int} {k : K} {n : Int} (h : takK s a = some (k, n)) : k.2.size ≤ 64 := by
  unfold takK at h
  split at h
  · cases h
  · split at h
    · split at h
      · cases h
      · rename_i hq
        simp only [Option.some.injEq, Prod.mk.injEq] at h
        rw [← h.1]
        show ((List.take _ _).toArray).size ≤ 64
        simp
        omega
    · cases h
theorem passF_er {x : Rd} {n : Int} (h : (passS x n false).er = 0) : False := by
  have he := passS_er h
  rw [passS_ok he] at h
  simp at h
theorem keyR_in {s : ByteArray} {x : Rd} {A : List K} (h : (keyR s x A).1.er = 0) : hs A (keyR s x A).2 = false ∧ (keyR s x A).2.2.size ≤ 64 := by
  unfold keyR at h ⊢
  cases ht : takK s x.at_ with
  | none => rw [ht] at h; exact (passF_er h).elim
  | some p =>
    obtain ⟨k, n⟩ := p
    rw [ht] at h
    simp only at h ⊢
    cases hh : hs A k with
    | true => rw [hh] at h; simp only [if_true] at h; exact (passF_er h).elim
    | false =>
      rw [hh] at h
      simp only [Bool.false_eq_true, if_false] at h ⊢
      have he := passS_er h
      rw [passB_ok he]
      simp only [if_true]
      exact ⟨hh, takK_s ht⟩
theorem outR_in {s : ByteArray} {x : Rd} {c : Cf} (h : (outR s x c).1.er = 0) (he : 0 < c.e) : right (outR s x c).2 = true ∧ keepsC c (outR s x c).2 = true := by
  have hx := outR_er h
  cases hb : s.data.toList[x.at_.toNat]? with
  | none =>
    rw [outR_end hx c (by simpa using List.getElem?_eq_none_iff.1 hb)] at h
    simp at h
  | some b =>
    cases hk : keepB c b.toNat with
    | false => rw [outR_kind hx c hb hk] at h; simp at h
    | true =>
      by_cases h0 : b.toNat = 0
      · rw [outR_val hx c hb hk h0]
        unfold keepB at hk
        rw [if_pos h0] at hk
        have hk' := of_decide_eq_true hk
        refine ⟨by simp [right, mayF, nonF], ?_⟩
        unfold keepsC
        rw [if_neg (by omega)]
        simpa using hk'
      · rw [outR_fail hx c hb hk h0] at h ⊢
        have hn := (numR_in h).1
        unfold keepB at hk
        rw [if_neg h0] at hk
        split at hk
        · rename_i hq
          have hk' := of_decide_eq_true hk
          generalize (numR s (numR s ⟨x.at_ + 1, 0⟩ 0 18446744073709551615).1 1 9223372036854775807).2 = r at *
          rcases hq with hq | hq <;> rw [hq] <;> refine ⟨by simp [right, mayF, nonF, hn], ?_⟩ <;> unfold keepsC <;> rw [if_neg (by omega)] <;> simpa using hk'
        · cases hk
def Gd (c : Cf) (now : Int) (L : List En) : Prop := ∀ pre x post, L = pre ++ x :: post → nxE c now pre x = 0
theorem ofL_zero (c : Cf) (now : Int) : ∀ (L D : List En) (i : Int), (∀ pre x post, L = pre ++ x :: post → nxE c now (D ++ pre) x = 0) → ofL c now D L i = (0, 0)
  | [], D, i, h => rfl
  | x :: L, D, i, h => by
    unfold ofL
    have h0 := h [] x L rfl
    rw [List.append_nil] at h0
    rw [if_neg (by simpa using h0)]
    exact ofL_zero c now L (D ++ [x]) (i + 1) (fun pre y post e => by
      rw [List.append_assoc]
      exact h (x :: pre) y post (by rw [e]; rfl))
theorem Gd.snoc {c : Cf} {now : Int} {L : List En} (h : Gd c now L) {x : En} (hx : nxE c now L x = 0) : Gd c now (L ++ [x]) := fun pre y post e => by
  rcases List.eq_nil_or_concat post with rfl | ⟨q, z, rfl⟩
  · have := List.append_inj' e rfl
    obtain ⟨rfl, h2⟩ := this
    cases h2
    exact hx
  · have e' : L ++ [x] = (pre ++ y :: q) ++ [z] := by rw [e]; simp
    exact h pre y q (List.append_inj' e' rfl).1
theorem entR_nx {s : ByteArray} {x : Rd} {c : Cf} {now : Int} {L : List En} (h : (entR s x c now (keysL L)).1.er = 0) (he : 0 < c.e) : nxE c now L (entR s x c now (keysL L)).2 = 0 := by
  have h2 := outR_er (s := s) (x := (numR s (keyR s x (keysL L)).1 0 now).1) (c := c) h
  have hk := keyR_in (numR_er h2)
  have hn := numR_in h2
  have ho := outR_in (s := s) (x := (numR s (keyR s x (keysL L)).1 0 now).1) (c := c) h he
  have hp : pairE (keyR s x (keysL L)).2 (outR s (numR s (keyR s x (keysL L)).1 0 now).1 c).2 = 0 := by
    unfold pairE
    rw [if_neg (by omega), if_pos ho.1]
  unfold nxE entR
  simp only
  rw [hp, fnd_isSome, hk.1, ho.2]
  simp
  omega
theorem entsR_gd {s : ByteArray} {c : Cf} {now : Int} : ∀ (n : Nat) (x : Rd) (L : List En), (L.length + n : Int) ≤ c.e → Gd c now L → (entsR s c now n x L).1.er = 0 → Gd c now (entsR s c now n x L).2 ∧ ((entsR s c now n x L).2.length : Int) ≤ c.e
  | 0, x, L, hl, hg, h => ⟨hg, by simpa [entsR] using hl⟩
  | n + 1, x, L, hl, hg, h => by
    by_cases hx : x.er = 0
    · rw [entsR, if_pos hx] at h ⊢
      by_cases hy : (entR s x c now (keysL L)).1.er = 0
      · exact entsR_gd n _ _ (by rw [List.length_append]; simp; omega) (hg.snoc (entR_nx hy (by omega))) h
      · rw [entsR_bad _ _ _ _ _ _ hy] at h
        exact (hy h).elim
    · rw [entsR_bad _ _ _ _ _ _ hx] at h
      exact (hx h).elim
theorem cfgR_ok {s : ByteArray} {x : Rd} (h : (cfgR s x).1.er = 0) : okC (cfgR s x).2 = true := by
  unfold cfgR at h ⊢
  simp only at h ⊢
  have h5 := numR_er h
  have h4 := numR_er h5
  have h3 := numR_er h4
  have h2 := numR_er h3
  have h1 := numR_er h2
  have h0 := numR_er h1
  have q6 := numR_in h
  have q5 := numR_in h5
  have q4 := numR_in h4
  have q3 := numR_in h3
  have q2 := numR_in h2
  have q1 := numR_in h1
  have q0 := numR_in h0
  unfold okC
  simp only [decide_eq_true_eq]
  omega
theorem rd_of {s : ByteArray} (h : (rd4 s).1.er = 0) : ofP (rd2 s).2 (rd3 s).2 (rd4 s).2 = (0, 0) := by
  have h3 : (numR s (rd3 s).1 0 (rd2 s).2.e).1.er = 0 := by
    by_cases hx : (numR s (rd3 s).1 0 (rd2 s).2.e).1.er = 0
    · exact hx
    · unfold rd4 at h
      rw [entsR_bad _ _ _ _ _ _ hx] at h
      exact h
  have hc := numR_in h3
  have h2 := numR_er h3
  have ht := numR_in (s := s) (x := (rd2 s).1) h2
  have h1 := numR_er (s := s) (x := (rd2 s).1) h2
  have hk := cfgR_ok (s := s) (x := rd1 s) h1
  have g := entsR_gd (s := s) (c := (rd2 s).2) (now := (rd3 s).2) (numR s (rd3 s).1 0 (rd2 s).2.e).2.toNat (numR s (rd3 s).1 0 (rd2 s).2.e).1 [] (by simp; omega) (fun pre x post e => by simp at e) h
  unfold ofP
  rw [if_neg (by rw [show okC (rd2 s).2 = true from hk]; simp), if_neg (by rw [show isT (rd3 s).2 = true from isT_yes ht.1 (by unfold MT; exact ht.2)]; simp), if_neg (by have := g.2; unfold rd4; omega)]
  exact ofL_zero _ _ _ [] 0 (fun pre x post e => g.1 pre x post e)
end Go.Proofs.YtpefbmheblfbeaaGreat.Sn
/- The boxes at the end of the document's takeEntry: the reader's, the entry's, and the two that are answered; what the two stores leave. -/
namespace Go.Proofs.YtpefbmheblfbeaaGreat.Sn
open Go.RowKit Go.Sort Go.Shelf Me
set_option linter.unusedVariables false
set_option linter.unusedSimpArgs false
def TeS (w' : World) (h xb : Nat) (s : ByteArray) (y : Rd) (e : En) : Prop := w'.heap[h]? = some (.cells #[.string s, .int .i64 y.at_, .int .i64 y.er] 113 (0, 0)) ∧ w'.heap[xb]? = some (.cells #[.int .u16 e.1.1, .string e.1.2, .int .i64 e.2.1.1, .int .i64 e.2.1.2.1, .int .i64 e.2.1.2.2.1, .int .i64 e.2.1.2.2.2, .int .i64 e.2.2] 88 (0, 0))
theorem TeS.e1 {W : World} {h xb b2 b3 : Nat} {s : ByteArray} {y : Rd} {e : En} (h0 : TeS W h xb s y e) (g2 : W.heap[b2]? = some (.cells #[.string ⟨#[]⟩, .int .i64 0, .int .i64 0] 113 (0, 0))) (g3 : W.heap[b3]? = some (.cells #[.int .u16 0, .string ⟨#[]⟩, .int .i64 0, .int .i64 0, .int .i64 0, .int .i64 0, .int .i64 0] 88 (0, 0))) (n0 : h ≠ b2) (n1 : xb ≠ b2) (n2 : b3 ≠ b2) : ∀ E1, E1 = (((W).setCell ⟨b2, 0, none⟩ (.string s)).setCell ⟨b2, 1, none⟩ (.int .i64 y.at_)).setCell ⟨b2, 2, none⟩ (.int .i64 y.er) → TeS E1 h xb s y e ∧ E1.heap[b3]? = some (.cells #[.int .u16 0, .string ⟨#[]⟩, .int .i64 0, .int .i64 0, .int .i64 0, .int .i64 0, .int .i64 0] 88 (0, 0)) ∧ E1.heap[b2]? = some (.cells #[.string s, .int .i64 y.at_, .int .i64 y.er] 113 (0, 0)) ∧ Touch [b2] W E1 := fun E1 hE => by
  have t9 : Touch [b2] W E1 := by rw [hE]; exact ((((Touch.refl [b2] W).setCell (p := ⟨b2, 0, none⟩) (Or.inl (by simp)) (.string s)).setCell (p := ⟨b2, 1, none⟩) (Or.inl (by simp)) (.int .i64 y.at_)).setCell (p := ⟨b2, 2, none⟩) (Or.inl (by simp)) (.int .i64 y.er))
  exact ⟨⟨t9.keep h0.1 (by simpa using n0), t9.keep h0.2 (by simpa using n1)⟩, t9.keep g3 (by simpa using n2), by rw [hE]; exact (bset (i := 2) (bset (i := 1) (bset (i := 0) g2 (.string s)) (.int .i64 y.at_)) (.int .i64 y.er)), t9⟩
theorem TeS.e2 {h xb b2 b3 : Nat} {s : ByteArray} {y : Rd} {e : En} (n0 : h ≠ b3) (n1 : xb ≠ b3) (n2 : b2 ≠ b3) : ∀ E1 E2, TeS E1 h xb s y e → E1.heap[b3]? = some (.cells #[.int .u16 0, .string ⟨#[]⟩, .int .i64 0, .int .i64 0, .int .i64 0, .int .i64 0, .int .i64 0] 88 (0, 0)) → E1.heap[b2]? = some (.cells #[.string s, .int .i64 y.at_, .int .i64 y.er] 113 (0, 0)) → E2 = (((((((E1).setCell ⟨b3, 0, none⟩ (.int .u16 e.1.1)).setCell ⟨b3, 1, none⟩ (.string e.1.2)).setCell ⟨b3, 2, none⟩ (.int .i64 e.2.1.1)).setCell ⟨b3, 3, none⟩ (.int .i64 e.2.1.2.1)).setCell ⟨b3, 4, none⟩ (.int .i64 e.2.1.2.2.1)).setCell ⟨b3, 5, none⟩ (.int .i64 e.2.1.2.2.2)).setCell ⟨b3, 6, none⟩ (.int .i64 e.2.2) → TeS E2 h xb s y e ∧ E2.heap[b3]? = some (.cells #[.int .u16 e.1.1, .string e.1.2, .int .i64 e.2.1.1, .int .i64 e.2.1.2.1, .int .i64 e.2.1.2.2.1, .int .i64 e.2.1.2.2.2, .int .i64 e.2.2] 88 (0, 0)) ∧ E2.heap[b2]? = some (.cells #[.string s, .int .i64 y.at_, .int .i64 y.er] 113 (0, 0)) ∧ Touch [b3] E1 E2 := fun E1 E2 h0 g3 g2 hE => by
  have t9 : Touch [b3] E1 E2 := by rw [hE]; exact ((((((((Touch.refl [b3] E1).setCell (p := ⟨b3, 0, none⟩) (Or.inl (by simp)) (.int .u16 e.1.1)).setCell (p := ⟨b3, 1, none⟩) (Or.inl (by simp)) (.string e.1.2)).setCell (p := ⟨b3, 2, none⟩) (Or.inl (by simp)) (.int .i64 e.2.1.1)).setCell (p := ⟨b3, 3, none⟩) (Or.inl (by simp)) (.int .i64 e.2.1.2.1)).setCell (p := ⟨b3, 4, none⟩) (Or.inl (by simp)) (.int .i64 e.2.1.2.2.1)).setCell (p := ⟨b3, 5, none⟩) (Or.inl (by simp)) (.int .i64 e.2.1.2.2.2)).setCell (p := ⟨b3, 6, none⟩) (Or.inl (by simp)) (.int .i64 e.2.2))
  exact ⟨⟨t9.keep h0.1 (by simpa using n0), t9.keep h0.2 (by simpa using n1)⟩, by rw [hE]; exact (bset (i := 6) (bset (i := 5) (bset (i := 4) (bset (i := 3) (bset (i := 2) (bset (i := 1) (bset (i := 0) g3 (.int .u16 e.1.1)) (.string e.1.2)) (.int .i64 e.2.1.1)) (.int .i64 e.2.1.2.1)) (.int .i64 e.2.1.2.2.1)) (.int .i64 e.2.1.2.2.2)) (.int .i64 e.2.2)), t9.keep g2 (by simpa using n2), t9⟩
theorem TeS.r0 {w' : World} {h xb : Nat} {s : ByteArray} {y : Rd} {e : En} (q : TeS w' h xb s y e) : w'.cell? ⟨h, 0, none⟩ = some (.string s) := cell_at q.1 rfl
theorem TeS.r1 {w' : World} {h xb : Nat} {s : ByteArray} {y : Rd} {e : En} (q : TeS w' h xb s y e) : w'.cell? ⟨h, 1, none⟩ = some (.int .i64 y.at_) := cell_at q.1 rfl
theorem TeS.r2 {w' : World} {h xb : Nat} {s : ByteArray} {y : Rd} {e : En} (q : TeS w' h xb s y e) : w'.cell? ⟨h, 2, none⟩ = some (.int .i64 y.er) := cell_at q.1 rfl
theorem TeS.x0 {w' : World} {h xb : Nat} {s : ByteArray} {y : Rd} {e : En} (q : TeS w' h xb s y e) : w'.cell? ⟨xb, 0, none⟩ = some (.int .u16 e.1.1) := cell_at q.2 rfl
theorem TeS.x1 {w' : World} {h xb : Nat} {s : ByteArray} {y : Rd} {e : En} (q : TeS w' h xb s y e) : w'.cell? ⟨xb, 1, none⟩ = some (.string e.1.2) := cell_at q.2 rfl
theorem TeS.x2 {w' : World} {h xb : Nat} {s : ByteArray} {y : Rd} {e : En} (q : TeS w' h xb s y e) : w'.cell? ⟨xb, 2, none⟩ = some (.int .i64 e.2.1.1) := cell_at q.2 rfl
theorem TeS.x3 {w' : World} {h xb : Nat} {s : ByteArray} {y : Rd} {e : En} (q : TeS w' h xb s y e) : w'.cell? ⟨xb, 3, none⟩ = some (.int .i64 e.2.1.2.1) := cell_at q.2 rfl
theorem TeS.x4 {w' : World} {h xb : Nat} {s : ByteArray} {y : Rd} {e : En} (q : TeS w' h xb s y e) : w'.cell? ⟨xb, 4, none⟩ = some (.int .i64 e.2.1.2.2.1) := cell_at q.2 rfl
theorem TeS.x5 {w' : World} {h xb : Nat} {s : ByteArray} {y : Rd} {e : En} (q : TeS w' h xb s y e) : w'.cell? ⟨xb, 5, none⟩ = some (.int .i64 e.2.1.2.2.2) := cell_at q.2 rfl
theorem TeS.x6 {w' : World} {h xb : Nat} {s : ByteArray} {y : Rd} {e : En} (q : TeS w' h xb s y e) : w'.cell? ⟨xb, 6, none⟩ = some (.int .i64 e.2.2) := cell_at q.2 rfl
end Go.Proofs.YtpefbmheblfbeaaGreat.Sn
/- The boxes of the document's takeEntry on its way: the reader's, the configuration's, the two that are answered, the entry's; what each store leaves. -/
namespace Go.Proofs.YtpefbmheblfbeaaGreat.Sn
open Go.RowKit Go.Sort Go.Shelf Me
set_option linter.unusedVariables false
set_option linter.unusedSimpArgs false
structure Tb (w W : World) (b1 b2 b3 xb : Nat) (s : ByteArray) (y : Rd) (c : Cf) (e : En) : Prop where
  t : Touch [] w W
  q : TeS W w.heap.size xb s y e
  k : W.heap[b1]? = some (.cells #[.int .i64 c.t, .int .i64 c.n, .int .i64 c.s, .int .i64 c.e, .int .i64 c.f, .int .i64 c.b, .int .i64 c.d] 29 (0, 0))
  g2 : W.heap[b2]? = some (.cells #[.string ⟨#[]⟩, .int .i64 0, .int .i64 0] 113 (0, 0))
  g3 : W.heap[b3]? = some (.cells #[.int .u16 0, .string ⟨#[]⟩, .int .i64 0, .int .i64 0, .int .i64 0, .int .i64 0, .int .i64 0] 88 (0, 0))
  lt : w.heap.size < b1 ∧ b1 < b2 ∧ b2 < b3 ∧ b3 < xb
theorem Tb.call {w W W' : World} {b1 b2 b3 xb : Nat} {s : ByteArray} {y : Rd} {c : Cf} {e : En} (h : Tb w W b1 b2 b3 xb s y c e) (t : Touch [] W W') : Tb w W' b1 b2 b3 xb s y c e :=
  ⟨h.t.trans' t, ⟨t.keep h.q.1 (by simp), t.keep h.q.2 (by simp)⟩, t.keep h.k (by simp), t.keep h.g2 (by simp), t.keep h.g3 (by simp), h.lt⟩
theorem Tb.setR {w W : World} {b1 b2 b3 xb : Nat} {s : ByteArray} {y : Rd} {c : Cf} {e : En} (h : Tb w W b1 b2 b3 xb s y c e) (z : Rd) {E : World} (hE : E = (((W).setCell ⟨w.heap.size, 0, none⟩ (.string s)).setCell ⟨w.heap.size, 1, none⟩ (.int .i64 z.at_)).setCell ⟨w.heap.size, 2, none⟩ (.int .i64 z.er)) : Tb w E b1 b2 b3 xb s z c e := by
  obtain ⟨l1, l2, l3, l4⟩ := h.lt
  have t9 : Touch [w.heap.size] W E := by rw [hE]; exact ((((Touch.refl [w.heap.size] W).setCell (p := ⟨w.heap.size, 0, none⟩) (Or.inl (by simp)) (.string s)).setCell (p := ⟨w.heap.size, 1, none⟩) (Or.inl (by simp)) (.int .i64 z.at_)).setCell (p := ⟨w.heap.size, 2, none⟩) (Or.inl (by simp)) (.int .i64 z.er))
  exact ⟨h.t.trans t9 (fun k hk => by simp at hk; omega), ⟨by rw [hE]; exact (bset (i := 2) (bset (i := 1) (bset (i := 0) h.q.1 (.string s)) (.int .i64 z.at_)) (.int .i64 z.er)), t9.keep h.q.2 (by simp; omega)⟩, t9.keep h.k (by simp; omega), t9.keep h.g2 (by simp; omega), t9.keep h.g3 (by simp; omega), h.lt⟩
theorem Tb.err {w W : World} {b1 b2 b3 xb : Nat} {s : ByteArray} {y : Rd} {c : Cf} {e : En} (h : Tb w W b1 b2 b3 xb s y c e) (v : Int) {E : World} (hE : E = (W).setCell ⟨w.heap.size, 2, none⟩ (.int .i64 v)) : Tb w E b1 b2 b3 xb s ⟨y.at_, v⟩ c e := by
  obtain ⟨l1, l2, l3, l4⟩ := h.lt
  have t9 : Touch [w.heap.size] W E := by rw [hE]; exact ((Touch.refl [w.heap.size] W).setCell (p := ⟨w.heap.size, 2, none⟩) (Or.inl (by simp)) (.int .i64 v))
  exact ⟨h.t.trans t9 (fun k hk => by simp at hk; omega), ⟨by rw [hE]; exact (bset (i := 2) h.q.1 (.int .i64 v)), t9.keep h.q.2 (by simp; omega)⟩, t9.keep h.k (by simp; omega), t9.keep h.g2 (by simp; omega), t9.keep h.g3 (by simp; omega), h.lt⟩
theorem Tb.on {w W : World} {b1 b2 b3 xb : Nat} {s : ByteArray} {y : Rd} {c : Cf} {e : En} (h : Tb w W b1 b2 b3 xb s y c e) (v : Int) {E : World} (hE : E = (W).setCell ⟨w.heap.size, 1, none⟩ (.int .i64 v)) : Tb w E b1 b2 b3 xb s ⟨v, y.er⟩ c e := by
  obtain ⟨l1, l2, l3, l4⟩ := h.lt
  have t9 : Touch [w.heap.size] W E := by rw [hE]; exact ((Touch.refl [w.heap.size] W).setCell (p := ⟨w.heap.size, 1, none⟩) (Or.inl (by simp)) (.int .i64 v))
  exact ⟨h.t.trans t9 (fun k hk => by simp at hk; omega), ⟨by rw [hE]; exact (bset (i := 1) h.q.1 (.int .i64 v)), t9.keep h.q.2 (by simp; omega)⟩, t9.keep h.k (by simp; omega), t9.keep h.g2 (by simp; omega), t9.keep h.g3 (by simp; omega), h.lt⟩
theorem Tb.key {w W : World} {b1 b2 b3 xb : Nat} {s : ByteArray} {y : Rd} {c : Cf} {e : En} (h : Tb w W b1 b2 b3 xb s y c e) (k : K) {E : World} (hE : E = ((W).setCell ⟨xb, 0, none⟩ (.int .u16 k.1)).setCell ⟨xb, 1, none⟩ (.string k.2)) : Tb w E b1 b2 b3 xb s y c (k, e.2) := by
  obtain ⟨l1, l2, l3, l4⟩ := h.lt
  have t9 : Touch [xb] W E := by rw [hE]; exact (((Touch.refl [xb] W).setCell (p := ⟨xb, 0, none⟩) (Or.inl (by simp)) (.int .u16 k.1)).setCell (p := ⟨xb, 1, none⟩) (Or.inl (by simp)) (.string k.2))
  exact ⟨h.t.trans t9 (fun k hk => by simp at hk; omega), ⟨t9.keep h.q.1 (by simp; omega), by rw [hE]; exact (bset (i := 1) (bset (i := 0) h.q.2 (.int .u16 k.1)) (.string k.2))⟩, t9.keep h.k (by simp; omega), t9.keep h.g2 (by simp; omega), t9.keep h.g3 (by simp; omega), h.lt⟩
theorem Tb.time {w W : World} {b1 b2 b3 xb : Nat} {s : ByteArray} {y : Rd} {c : Cf} {e : En} (h : Tb w W b1 b2 b3 xb s y c e) (v : Int) {E : World} (hE : E = (W).setCell ⟨xb, 6, none⟩ (.int .i64 v)) : Tb w E b1 b2 b3 xb s y c (e.1, (e.2.1, v)) := by
  obtain ⟨l1, l2, l3, l4⟩ := h.lt
  have t9 : Touch [xb] W E := by rw [hE]; exact ((Touch.refl [xb] W).setCell (p := ⟨xb, 6, none⟩) (Or.inl (by simp)) (.int .i64 v))
  exact ⟨h.t.trans t9 (fun k hk => by simp at hk; omega), ⟨t9.keep h.q.1 (by simp; omega), by rw [hE]; exact (bset (i := 6) h.q.2 (.int .i64 v))⟩, t9.keep h.k (by simp; omega), t9.keep h.g2 (by simp; omega), t9.keep h.g3 (by simp; omega), h.lt⟩
theorem Tb.val {w W : World} {b1 b2 b3 xb : Nat} {s : ByteArray} {y : Rd} {c : Cf} {e : En} (h : Tb w W b1 b2 b3 xb s y c e) (v : Int) {E : World} (hE : E = (W).setCell ⟨xb, 2, none⟩ (.int .i64 v)) : Tb w E b1 b2 b3 xb s y c (e.1, ((v, e.2.1.2), e.2.2)) := by
  obtain ⟨l1, l2, l3, l4⟩ := h.lt
  have t9 : Touch [xb] W E := by rw [hE]; exact ((Touch.refl [xb] W).setCell (p := ⟨xb, 2, none⟩) (Or.inl (by simp)) (.int .i64 v))
  exact ⟨h.t.trans t9 (fun k hk => by simp at hk; omega), ⟨t9.keep h.q.1 (by simp; omega), by rw [hE]; exact (bset (i := 2) h.q.2 (.int .i64 v))⟩, t9.keep h.k (by simp; omega), t9.keep h.g2 (by simp; omega), t9.keep h.g3 (by simp; omega), h.lt⟩
theorem Tb.fault {w W : World} {b1 b2 b3 xb : Nat} {s : ByteArray} {y : Rd} {c : Cf} {e : En} (h : Tb w W b1 b2 b3 xb s y c e) (a b d : Int) {E : World} (hE : E = (((W).setCell ⟨xb, 3, none⟩ (.int .i64 a)).setCell ⟨xb, 4, none⟩ (.int .i64 b)).setCell ⟨xb, 5, none⟩ (.int .i64 d)) : Tb w E b1 b2 b3 xb s y c (e.1, ((e.2.1.1, a, b, d), e.2.2)) := by
  obtain ⟨l1, l2, l3, l4⟩ := h.lt
  have t9 : Touch [xb] W E := by rw [hE]; exact ((((Touch.refl [xb] W).setCell (p := ⟨xb, 3, none⟩) (Or.inl (by simp)) (.int .i64 a)).setCell (p := ⟨xb, 4, none⟩) (Or.inl (by simp)) (.int .i64 b)).setCell (p := ⟨xb, 5, none⟩) (Or.inl (by simp)) (.int .i64 d))
  exact ⟨h.t.trans t9 (fun k hk => by simp at hk; omega), ⟨t9.keep h.q.1 (by simp; omega), by rw [hE]; exact (bset (i := 5) (bset (i := 4) (bset (i := 3) h.q.2 (.int .i64 a)) (.int .i64 b)) (.int .i64 d))⟩, t9.keep h.k (by simp; omega), t9.keep h.g2 (by simp; omega), t9.keep h.g3 (by simp; omega), h.lt⟩
end Go.Proofs.YtpefbmheblfbeaaGreat.Sn
