/- The program's Stretches; no conditions but those that each states. -/
import Derived.Test.YtibgfkjhohgkhaaTwb
import Derived.Test.YtibgfkjhohgkhaaRgk
import Derived.Test.YtibgfkjhohgkhaaTln
namespace Go.Proofs.Ytibgfkjhohgkhaa.Ty
open Go.RowKit Go.Maps Go.ChangeMaps
open Tr
set_option linter.unusedVariables false
set_option linter.unusedSimpArgs false
section
variable {kt : TypeId} {K : Type} {c : KK Try.prog kt K} {w : World} {ops : Array Oper} {rest : List Oper} {o : Oper} {a : Act} {Q : Exit → Act → World → Prop}
theorem wpList_klook (hg : o.guard = none) (m x : Operand) (t : TypeId) (hop : o.op = Op.lookup t m x false)
    (e : TypeId) (ht : Try.prog.underlying t = some (.map kt e)) (b n : Nat) (f : K → Option Value) (hm : a.eval m = .map (some b)) (hown : MapK c w b n f)
    {z : Value} (hz : ∀ u : World, (zeroValue e).run Try.prog u = .ok z u) (k : K) (hx : a.eval x = c.kv k) (hk : c.ok k) (v : Value) (hv : v = (f k).getD z)
    (hK : wpList Try.prog ops Q rest (a.put o.dst v) w) : wpList Try.prog ops Q (o :: rest) a w := by
  subst hv
  refine wpList_plain hg fun K' hK' => ?_
  have hrun := hown.look ht (hz w) hk
  unfold Oper.wp
  simp [execOp, hop, hm, hx, hrun, Result.andThen]
  exact hK' _ _ hK
end
theorem zero50 (u : World) : (zeroValue 50).run Try.prog u = .ok (q4v zq) u := by kernel_rfl
theorem look_tkq (g : Int → Option Q4) (k : Int) : q4v ((g k).getD zq) = (tkq g k).getD (q4v zq) := by
  unfold tkq
  cases g k <;> rfl
theorem info50 : (Try.prog.info? 50).map (fun i => (i.zero, i.size, i.bytes)) = some (some (q4v zq), 4, 32) := by kernel_rfl
/-- What has been gathered, by what is still to come. -/
structure Gq (g : Int → Option Q4) (left : Int → Prop) (O : List Q4) : Prop where
  ne : O.Pairwise (fun x y => x.fr ≠ y.fr)
  mem : ∀ q, q ∈ O ↔ (g q.fr = some (q.at_ 0) ∧ ¬ left q.fr)
theorem at0 {q : Q4} {k : Int} (h : q.fr = 0) : (q.at_ k).at_ 0 = q := by
  obtain ⟨a, b, c, d⟩ := q
  simp only at h
  subst h
  rfl
theorem Gq.step {g : Int → Option Q4} {left : Int → Prop} {O : List Q4} {k : Int} {q : Q4} (h : Gq g left O) (hg : g k = some q) (hz : q.fr = 0) (hl : left k) : Gq g (fun j => left j ∧ j ≠ k) (O ++ [q.at_ k]) := by
  refine ⟨?_, fun x => ?_⟩
  · rw [List.pairwise_append]
    refine ⟨h.ne, List.pairwise_singleton _ _, fun a ha b hb e => ?_⟩
    simp only [List.mem_singleton] at hb
    subst hb
    have := ((h.mem a).1 ha).2
    rw [e] at this
    exact this hl
  · rw [List.mem_append, h.mem x, List.mem_singleton]
    constructor
    · rintro (⟨q1, q2⟩ | rfl)
      · exact ⟨q1, fun e => q2 e.1⟩
      · exact ⟨by show g k = _; rw [hg, at0 hz], fun e => e.2 rfl⟩
    · rintro ⟨q1, q2⟩
      by_cases e : x.fr = k
      · right
        rw [e, hg] at q1
        have := Option.some.inj q1
        obtain ⟨a, b, c, d⟩ := x
        simp only at e
        subst e
        rw [this]; rfl
      · exact Or.inl ⟨q1, fun e' => q2 ⟨e', e⟩⟩
theorem Gq.start {g : Int → Option Q4} {n : Nat} (h : Pi g n) : Gq g (fun k => KT.ok k ∧ (tkq g k).isSome = true) [] := by
  refine ⟨List.Pairwise.nil, fun q => ⟨fun e => by simp at e, fun e => absurd ?_ e.2⟩⟩
  have := h.w _ _ e.1
  exact ⟨W64.mk (by omega) (by omega), by simp [tkq, e.1]⟩
theorem Gq.tells {g : Int → Option Q4} {left : Int → Prop} {O S : List Q4} (h : Gq g left O) (hl : ∀ k, ¬ left k) (hp : S.Perm O) (hs : S.Pairwise leQ) : Tells g S := by
  refine ⟨?_, fun q => ?_⟩
  · have hn : S.Pairwise (fun x y => x.fr ≠ y.fr) := (hp.pairwise_iff (fun hxy => Ne.symm hxy)).2 h.ne
    exact (hs.and hn).imp (fun {a b} hab => by
      obtain ⟨h1, h2⟩ := hab
      unfold leQ at h1
      omega)
  · rw [hp.mem_iff, h.mem q]
    exact ⟨fun e => e.1, fun e => ⟨e, hl _⟩⟩
theorem stretches_no (w : World) (v : Value) (b : Int) (hb : b < 0 ∨ 62 < b) :
    Calls Try.prog 18 #[v, .int .i64 b] w fun r w' => r = .returned (.tuple #[.slice none 0 0, .int .i64 12]) ∧ Touch [] w w' := by
  obtain ⟨e1, e2⟩ := Ti.rd_bits 0 b rfl hb
  have HD := hid (fun w' => Ti.down24 0 b w')
  rw [e1, e2] at HD
  go_enter Try.func18, Try.ntmps18
  go_wp2_with (go_at_call 33; refine (HD.out _).mono ?_; rintro r w' ⟨rfl, hw'⟩; subst w')
  go_ret2
  exact ⟨rfl, Touch.refl _ _⟩
set_option maxHeartbeats 4000000 in
set_option maxRecDepth 20000 in
theorem stretches_ {w : World} {v : Value} {L : List Ez} (h : Ev w v L) (hl : L.length ≤ 2000) (B : Nat) (hB : B ≤ 62) :
    Calls Try.prog 18 #[v, .int .i64 (B : Int)] w fun r w' => ∃ (S : List Q4) (v' : Value), r = .returned (.tuple #[v', .int .i64 0]) ∧ w'.ownsRow w.heap.size 50 4 v' S.length (S.flatMap row4) ∧ Tells (pL B L) S ∧ S.length ≤ 2000 ∧ Touch [] w w' := by
  have H := hid h
  have hmm := @run_makeMap Try.prog
  obtain ⟨a, c, rfl, hc, hrow⟩ := h
  clear hrow
  obtain ⟨n, hn⟩ : ∃ n, L.length = n := ⟨_, rfl⟩
  have HN := hid hn
  rw [hn] at hl hc H ⊢
  clear hn
  have HD0 := hid (fun w' => Ti.down24 0 (B : Int) w')
  obtain ⟨e1, e2⟩ := Ti.rd_yes 0 B rfl hB
  rw [e1, e2] at HD0
  clear e1 e2
  generalize Ti.dn 0 B = z00 at *
  have HDY := hid (fun (x : Int) (hx : Ti.isT x = true) (w' : World) => show Calls Try.prog 33 #[.int .i64 x, .int .i64 (B : Int)] w' fun e u => e = .returned (.tuple #[.int .i64 (Ti.dn x B), .int .i64 0]) ∧ u = w' from by
    have := Ti.down24 x (B : Int) w'
    obtain ⟨e1, e2⟩ := Ti.rd_yes x B hx hB
    rw [e1, e2] at this
    exact this)
  have HDN := hid (fun (x : Int) (hx : Ti.isT x = false) (w' : World) => show Calls Try.prog 33 #[.int .i64 x, .int .i64 (B : Int)] w' fun e u => e = .returned (.tuple #[.int .i64 0, .int .i64 10]) ∧ u = w' from by
    have := Ti.down24 x (B : Int) w'
    obtain ⟨e1, e2⟩ := Ti.rd_no x (B : Int) hx
    rw [e1, e2] at this
    exact this)
  go_enter Try.func18, Try.ntmps18
  go_wp2_with (go_at_call 33; refine (HD0.out _).mono ?_; rintro r w' ⟨rfl, hw'⟩; subst w')
  go_loopw [29] (fun i wr => ∃ (j m : Nat), i = .int .i64 j ∧ j ≤ n ∧ m ≤ j ∧ Hid (MapK KT wr w.heap.size m (tkq (pL B (L.take j)))) ∧ Hid (Touch [] w wr)) (fun i _ => n - (intOf i).toNat)
  case atStart => exact ⟨0, 0, rfl, Nat.zero_le _, Nat.le_refl _, hid (mapK_made KT w), hid ((Touch.refl [] w).alloc _)⟩
  case round =>
    obtain ⟨j, m, rfl, hj, hm, HM, HT⟩ := hrel
    clear hmm
    by_cases hlt : j < n
    · obtain ⟨e, he⟩ : ∃ e, L[j]? = some e := ⟨_, List.getElem?_eq_getElem (by rw [HN.out]; exact hlt)⟩
      have hpi := Pi.all B (L.take j)
      rw [List.length_take, HN.out, Nat.min_eq_left hj] at hpi
      have HPI := hid hpi
      clear hpi
      have HSN := hid (show pL B (L.take (j + 1)) = pS B (pL B (L.take j)) e by rw [List.take_add_one, he]; exact pL_snoc _ _ _)
      obtain ⟨gb, off, rfl, hg, c0, c1, c2, c3, c4, c5, c6, c7, c8, c9, c10, c11, c12⟩ := (H.out.keep HT.out).at_ he
      clear he
      generalize pL B (L.take j) = g at *
      have hml := HM.out.lt
      have B1 : Ib (wr.alloc (.cells #[.int .i64 e.at_, .int .i64 e.kd, .int .i64 e.cl, .int .i64 e.ca, .int .i64 e.ru, .int .i64 e.ge, .int .i64 e.ho, .int .u16 e.sp, .string e.nm, .int .i64 e.va, .int .i64 e.fk, .int .i64 e.fc, .int .i64 e.fr] 69)) wr.heap.size e := Ib.new wr e 69
      have HM1 := hid (HM.out.keep ((Touch.refl [] wr).alloc (.cells #[.int .i64 e.at_, .int .i64 e.kd, .int .i64 e.cl, .int .i64 e.ca, .int .i64 e.ru, .int .i64 e.ge, .int .i64 e.ho, .int .u16 e.sp, .string e.nm, .int .i64 e.va, .int .i64 e.fk, .int .i64 e.fc, .int .i64 e.fr] 69)) (by simp))
      have HT1 := hid (HT.out.alloc (.cells #[.int .i64 e.at_, .int .i64 e.kd, .int .i64 e.cl, .int .i64 e.ca, .int .i64 e.ru, .int .i64 e.ge, .int .i64 e.ho, .int .u16 e.sp, .string e.nm, .int .i64 e.va, .int .i64 e.fk, .int .i64 e.fc, .int .i64 e.fr] 69))
      clear HM HT
      go_upto_region 8 with fail
      clear c0 c1 c2 c3 c4 c5 c6 c7 c8 c9 c10 c11 c12 hg
      generalize wr.alloc (.cells #[.int .i64 e.at_, .int .i64 e.kd, .int .i64 e.cl, .int .i64 e.ca, .int .i64 e.ru, .int .i64 e.ge, .int .i64 e.ho, .int .u16 e.sp, .string e.nm, .int .i64 e.va, .int .i64 e.fk, .int .i64 e.fc, .int .i64 e.fr] 69) = W1 at *
      generalize wr.heap.size = eb at *
      obtain ⟨c0, c1, c2, c3, c4, c5, c6, c7, c8, c9, c10, c11, c12⟩ := B1
      cases hv : Ti.isT e.at_ with
      | false =>
        have HP := hid (show pS B g e = g from by unfold pS vld; rw [hv]; rfl)
        have HDC := hid (HDN.out e.at_ hv)
        clear hv
        go_wp2_with (go_at_call 33; refine (HDC.out _).mono ?_; rintro r w' ⟨rfl, hw'⟩; subst w')
        go_roundw
        case rel => exact ⟨j + 1, m, rfl, by omega, by omega, hid (by rw [HSN.out, HP.out]; exact HM1.out), HT1⟩
        case measure => first | (simp [intOf]; done) | (simp [intOf]; omega)
      | true =>
        have HDC := hid (HDY.out e.at_ hv)
        have HQ := hid (HPI.out.getD (dk B e))
        have hww : KT.ok (dk B e) := by
          obtain ⟨t0, t1⟩ := Ti.isT_yes hv
          have hd := Ti.dn_bounds e.at_ B t0
          exact W64.mk (by unfold dk; omega) (by unfold dk; omega)
        have HWW := hid hww
        have HLK := hid (look_tkq g (dk B e))
        have HP := hid (show pS B g e = if isK e.kd = true then (fun k => if k = dk B e then some (bump ((g (dk B e)).getD zq) e.kd) else g k) else g from by unfold pS vld; rw [hv]; simp)
        obtain ⟨q, hq⟩ : ∃ q, (g (dk B e)).getD zq = q := ⟨_, rfl⟩
        rw [hq] at HQ HLK HP
        obtain ⟨k, hk⟩ : ∃ k, dk B e = k := ⟨_, rfl⟩
        have hk' : Ti.dn e.at_ B = k := hk
        rw [hk'] at HDC
        rw [hk] at HWW HLK HP
        clear hq hk hk' hv hww
        have HWI := hid (within_ q e (by have := HQ.out; omega))
        have HBE := hid (bump_fr q e.kd)
        cases hkd : isK e.kd with
        | false =>
          rw [hkd] at HWI HP
          clear hkd
          unfold q4v at HWI
          unfold Ez.val at HWI
          go_wp2_with (first | (go_at_call 33; refine (HDC.out _).mono ?_; rintro r w' ⟨rfl, hw'⟩; subst w') | (refine wpList_klook (c := KT) rfl _ _ 88 rfl 50 Try.underlying88 w.heap.size m (tkq g) rfl HM1.out zero50 k rfl HWW.out (.agg #[.int .i64 q.fr, .int .i64 q.jo, .int .i64 q.be, .int .i64 q.en]) HLK.out ?_) | (go_at_call 34; refine (HWI.out _).mono ?_; rintro r w2 ⟨rfl, t2⟩; have HM2 := hid (HM1.out.keep (t2.alloc (.cells #[.int .i64 (bump q e.kd).fr, .int .i64 (bump q e.kd).jo, .int .i64 (bump q e.kd).be, .int .i64 (bump q e.kd).en] 50)) (by simp)); have HT2 := hid (HT1.out.trans' (t2.alloc (.cells #[.int .i64 (bump q e.kd).fr, .int .i64 (bump q e.kd).jo, .int .i64 (bump q e.kd).be, .int .i64 (bump q e.kd).en] 50))); clear t2))
          exact ⟨⟨j + 1, m, congrArg _ (by omega), by omega, by omega, hid (by rw [HSN.out, HP.out]; exact HM2.out), HT2⟩, by simp [intOf]; omega⟩
        | true =>
          rw [hkd] at HWI HP
          clear hkd
          unfold q4v at HWI
          unfold Ez.val at HWI
          go_upto_region 12 with (first | (go_at_call 33; refine (HDC.out _).mono ?_; rintro r w' ⟨rfl, hw'⟩; subst w') | (refine wpList_klook (c := KT) rfl _ _ 88 rfl 50 Try.underlying88 w.heap.size m (tkq g) rfl HM1.out zero50 k rfl HWW.out (.agg #[.int .i64 q.fr, .int .i64 q.jo, .int .i64 q.be, .int .i64 q.en]) HLK.out ?_) | (go_at_call 34; refine (HWI.out _).mono ?_; rintro r w2 ⟨rfl, t2⟩; have HM2 := hid (HM1.out.keep (t2.alloc (.cells #[.int .i64 (bump q e.kd).fr, .int .i64 (bump q e.kd).jo, .int .i64 (bump q e.kd).be, .int .i64 (bump q e.kd).en] 50)) (by simp)); have HT2 := hid (HT1.out.trans' (t2.alloc (.cells #[.int .i64 (bump q e.kd).fr, .int .i64 (bump q e.kd).jo, .int .i64 (bump q e.kd).be, .int .i64 (bump q e.kd).en] 50))); clear t2))
          obtain ⟨ob, hr0, hM3⟩ := HM2.out.set (t := 88) (e := 50) Try.underlying88 (by unfold maxLen; omega) HWW.out (.agg #[.int .i64 (bump q e.kd).fr, .int .i64 (bump q e.kd).jo, .int .i64 (bump q e.kd).be, .int .i64 (bump q e.kd).en])
          have hrun : (Instr.mapUpdate 88 (.map (some w.heap.size)) (.int .i64 k) (.agg #[.int .i64 (bump q e.kd).fr, .int .i64 (bump q e.kd).jo, .int .i64 (bump q e.kd).be, .int .i64 (bump q e.kd).en])).run Try.prog (w2.alloc (.cells #[.int .i64 (bump q e.kd).fr, .int .i64 (bump q e.kd).jo, .int .i64 (bump q e.kd).be, .int .i64 (bump q e.kd).en] 50)) = .ok () (setBlock (w2.alloc (.cells #[.int .i64 (bump q e.kd).fr, .int .i64 (bump q e.kd).jo, .int .i64 (bump q e.kd).be, .int .i64 (bump q e.kd).en] 50)) w.heap.size ob) := hr0
          have HT3 := hid (HT2.out.trans (show Touch [w.heap.size] (w2.alloc (.cells #[.int .i64 (bump q e.kd).fr, .int .i64 (bump q e.kd).jo, .int .i64 (bump q e.kd).be, .int .i64 (bump q e.kd).en] 50)) (setBlock (w2.alloc (.cells #[.int .i64 (bump q e.kd).fr, .int .i64 (bump q e.kd).jo, .int .i64 (bump q e.kd).be, .int .i64 (bump q e.kd).en] 50)) w.heap.size ob) from touch_setBlock (Touch.refl _ _) (Or.inl (by simp)) ob) (fun i hi => Or.inr (by simp at hi; omega)))
          have HM3 := hid hM3
          clear hM3 hr0
          go_wp2_with fail
          have hk3 := kupd_tkq g k (bump q e.kd)
          unfold q4v at hk3
          rw [hk3] at HM3
          have hmu : (if (tkq g k).isSome = true then m else m + 1) ≤ j + 1 := by split <;> omega
          exact ⟨⟨j + 1, _, congrArg _ (by omega), by omega, hmu, hid (by rw [HSN.out, HP.out, if_pos trivial]; exact HM3.out), HT3⟩, by simp [intOf]; omega⟩
    · obtain rfl : j = n := by omega
      rw [← HN.out, List.take_length] at HM
      have HPI := hid (Pi.all B L)
      obtain ⟨W2, hrun, hrg, T2, hsz⟩ := HM.out.range (t := 88) (e := 50) Try.underlying88
      have HRg := hid hrg
      have HT2 := hid (HT.out.trans' T2)
      have HG0 := hid (Gq.start HPI.out)
      have hml := HM.out.lt
      obtain ⟨g, hgd⟩ : ∃ g, pL B L = g := ⟨_, rfl⟩
      have HGE := hid hgd
      clear hrg HM T2
      rw [hgd] at HPI HRg HG0
      clear hgd
      go_wp2_with fail
      clear hrun
      generalize hrr : wr.heap.size = r at *
      clear hrr
      have hmn : m ≤ 2000 := by omega
      go_loopw [15] (fun v wr2 => ∃ (O : List Q4) (vv : Value) (cnt : Nat) (left : Int → Prop), v = vv ∧ Hid (wr2.ownsRow (r + 1) 50 4 vv O.length (O.flatMap row4)) ∧ Hid (RgK KT wr2 w.heap.size r m (tkq g) left cnt) ∧ Hid (Gq g left O) ∧ O.length + cnt ≤ m ∧ r < wr2.heap.size ∧ Hid (Touch [] w wr2)) (fun _ wr2 => wr2.rangeLeft w.heap.size r)
      case atStart => exact ⟨[], _, m, _, rfl, hid ⟨rfl, Or.inl ⟨rfl, rfl⟩⟩, HRg, HG0, by simp, by omega, HT2⟩
      case round =>
        obtain ⟨O, vv, cnt, left, rfl, HO, HR, HG, hcn, hrl, HT3⟩ := hrel
        clear HRg HG0 HT2 hsz
        rcases HR.out.next 0 with ⟨hc0, hl0, hnx⟩ | ⟨k, vq, w1, cnt1, hok, hlk, hfk, hnx, hrg1, hltc, t1, hs1, hen⟩
        · have HGT := hid (fun (S : List Q4) (h1 : S.Perm O) (h2 : S.Pairwise leQ) => HG.out.tells hl0 h1 h2)
          clear hl0 HR HG
          rcases HO.out.2 with ⟨e1, e2⟩ | ⟨gg, cap, cur, e1, _⟩
          · have e0 : O = [] := List.length_eq_zero_iff.1 e2
            subst e0 e1
            have HS := hid (fun w' => sort_0 (.func (.func 36) #[] #[]) w')
            go_wp2_with (go_at_call 35; refine (HS.out _).mono ?_; rintro e w2 ⟨rfl, t2⟩; have T4 := hid (HT3.out.trans' t2); clear t2)
            go_ret2
            exact ⟨[], _, rfl, ⟨rfl, Or.inl ⟨rfl, rfl⟩⟩, (by rw [HGE.out]; exact HGT.out [] (List.Perm.refl _) List.Pairwise.nil), Nat.zero_le _, T4.out⟩
          · subst e1
            haveI : Inhabited Q4 := ⟨zq⟩
            have HS := hid (sortQ wr (r + 1) gg cap O HO.out (by omega))
            have HBB := hid (Un.owns_base HO.out)
            have hol : O.length ≤ 2000 := by omega
            clear HO
            generalize hln : O.length = ln at *
            go_wp2_with (go_at_call 35; refine HS.out.mono ?_; rintro e w2 ⟨S, rfl, s1, s2, s3, s4⟩; have S1 := hid s1; have S2 := hid s2; have S3 := hid s3; have S4 := hid s4; clear s1 s2 s3 s4)
            go_ret2
            have hsl : S.length = ln := by rw [← hln]; exact S1.out.length_eq
            exact ⟨S, .slice (some ⟨gg, 0, none⟩) S.length cap, by rw [hsl]; rfl, own_base S3.out (by omega), (by rw [HGE.out]; exact HGT.out S S1.out S2.out), by omega, HT3.out.trans S4.out (fun i hi => Or.inr (by simp at hi; have := HBB.out; omega))⟩
        · obtain ⟨q, hq, rfl⟩ := Option.map_eq_some_iff.1 hfk
          have HGN := hid (HG.out.step hq (HPI.out.z _ _ hq) hlk)
          have hnx' : (Instr.next (.pointer (some ⟨r, 0, none⟩)) false 0).run Try.prog wr = .ok (.tuple #[.bool true, .int .i64 k, .agg #[.int .i64 q.fr, .int .i64 q.jo, .int .i64 q.be, .int .i64 q.en]]) w1 := hnx
          have hen' : (Instr.entry (.pointer (some ⟨r, 0, none⟩))).run Try.prog w1 = .ok (.tuple #[.int .i64 k, .agg #[.int .i64 q.fr, .int .i64 q.jo, .int .i64 q.be, .int .i64 q.en]]) w1 := hen
          have HO1 := hid (own_touch HO.out t1 (fun b hb e => by have := (HO.out.lt b hb).1; simp at e; omega))
          have HT4 := hid (HT3.out.trans t1 (fun i hi => Or.inr (by simp at hi; omega)))
          have HRC := hid HR.out.count
          have HR1 := hid hrg1
          clear hnx hen hfk hok hlk hrg1 HG HO HT3 HR t1 HPI hq
          go_upto_region 19 with fail
          clear hnx' hen'
          have tw : Touch [] w1 (w1.alloc (.cells #[.int .i64 k, .int .i64 q.jo, .int .i64 q.be, .int .i64 q.en] 50)) := (Touch.refl [] w1).alloc _
          have HO2 := hid (own_touch HO1.out tw (fun _ _ h => by cases h))
          have HT5 := hid (HT4.out.trans' tw)
          have HR2 := hid (HR1.out.keep tw (by simp) (by simp))
          have hz2 := tw.size
          clear tw HO1 HT4 HR1
          have d0 : (w1.alloc (.cells #[.int .i64 k, .int .i64 q.jo, .int .i64 q.be, .int .i64 q.en] 50)).cell? ⟨wr.heap.size, 0, none⟩ = some (.int .i64 k) := by rw [← hs1]; exact cell_at (heap_alloc_new w1 _) rfl
          have d1 : (w1.alloc (.cells #[.int .i64 k, .int .i64 q.jo, .int .i64 q.be, .int .i64 q.en] 50)).cell? ⟨wr.heap.size, 1, none⟩ = some (.int .i64 q.jo) := by rw [← hs1]; exact cell_at (heap_alloc_new w1 _) rfl
          have d2 : (w1.alloc (.cells #[.int .i64 k, .int .i64 q.jo, .int .i64 q.be, .int .i64 q.en] 50)).cell? ⟨wr.heap.size, 2, none⟩ = some (.int .i64 q.be) := by rw [← hs1]; exact cell_at (heap_alloc_new w1 _) rfl
          have d3 : (w1.alloc (.cells #[.int .i64 k, .int .i64 q.jo, .int .i64 q.be, .int .i64 q.en] 50)).cell? ⟨wr.heap.size, 3, none⟩ = some (.int .i64 q.en) := by rw [← hs1]; exact cell_at (heap_alloc_new w1 _) rfl
          generalize w1.alloc (.cells #[.int .i64 k, .int .i64 q.jo, .int .i64 q.be, .int .i64 q.en] 50) = W3 at *
          have HN := hid (Rs.new W3 #[.int .i64 k, .int .i64 q.jo, .int .i64 q.be, .int .i64 q.en] 50 4 rfl)
          have tx : Touch [] W3 (W3.alloc (.cells #[.int .i64 k, .int .i64 q.jo, .int .i64 q.be, .int .i64 q.en] 50)) := (Touch.refl [] W3).alloc _
          have HO3 := hid (own_touch HO2.out tx (fun _ _ h => by cases h))
          have HT6 := hid (HT5.out.trans' tx)
          have HR3 := hid (HR2.out.keep tx (by simp) (by simp))
          have HSZ := hid (show r + 1 ≤ (W3.alloc (.cells #[.int .i64 k, .int .i64 q.jo, .int .i64 q.be, .int .i64 q.en] 50)).heap.size from by have := tx.size; omega)
          clear tx HO2 HT5 HR2
          have HWR := hid (show w.heap.size ≤ r + 1 from by omega)
          have HML := hid hml
          go_wp2_with (at_builtin; refine wpList_append_rs rfl _ _ 42 50 rfl (q4v zq) 4 32 info50 Try.underlying42 rfl (by decide) (r + 1) u15 O.length (O.flatMap row4) rfl HO3.out (.slice (some ⟨W3.heap.size, 0, none⟩) 1 1) 1 (row4 (q.at_ k)) rfl HN.out (row4_one _) (by unfold maxLen; omega) (by omega) HSZ.out ?_; intro v5 w5 o5 g5 p5; have O5 := hid o5; have G5 := hid g5; clear o5 g5 p5)
          go_roundw
          case rel =>
            have T7 : Touch u15.ownBlock.toList _ w5 := (Touch.refl u15.ownBlock.toList _).grown G5.out (fun b hb => Or.inl (by simp [hb]))
            refine ⟨O ++ [q.at_ k], v5, cnt1, _, rfl, hid ?_, hid (HR3.out.keep T7 (fun e => ?_) (fun e => ?_)), HGN, by simp; omega, by have := T7.size; have := HSZ.out; omega, hid (touch_grown HT6.out G5.out HO3.out HWR.out)⟩
            · have := O5.out
              rw [List.flatMap_append, List.length_append, List.flatMap_cons, List.flatMap_nil, List.append_nil]
              exact this
            · have := (HO3.out.lt _ (by simpa using e)).1
              have := HML.out; omega
            · have := (HO3.out.lt _ (by simpa using e)).1
              omega
          case measure =>
            have T7 : Touch u15.ownBlock.toList _ w5 := (Touch.refl u15.ownBlock.toList _).grown G5.out (fun b hb => Or.inl (by simp [hb]))
            have HR4 := HR3.out.keep T7 (fun e => by have := (HO3.out.lt _ (by simpa using e)).1; have := HML.out; omega) (fun e => by have := (HO3.out.lt _ (by simpa using e)).1; omega)
            rw [HR4.count, HRC.out]
            exact hltc
end Go.Proofs.Ytibgfkjhohgkhaa.Ty
