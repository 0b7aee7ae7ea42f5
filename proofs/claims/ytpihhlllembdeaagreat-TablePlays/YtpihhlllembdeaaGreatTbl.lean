/- The contracts of gone, Leave and Release. -/
import Derived.Test.YtpihhlllembdeaaGreatTbg
namespace Go.Proofs.YtpihhlllembdeaaGreat
open Go.RowKit Go.Maps Go.ChangeMaps
set_option linter.unusedVariables false
set_option linter.unusedSimpArgs false
def bxR (R : Rn) : Obj := .cells #[.int .i64 R.run, .int .u16 R.sp, .string R.nm, .int .i64 R.gen, .bool R.rf] 80
def bxG : Obj := .cells #[.bool false, .bool false] 57
section
variable (w : World) (t : Nat) (F : List Nat) (T : Tb) (N : Nat)
theorem curBy_mem {R : Rn} {S : St} (h : Ti T N) (hR : (R, S) ∈ T.rs) : curBy T R.run = isCur T R := by
  unfold curBy
  have := runOf_of_mem h hR
  simp only at this
  rw [this]
set_option maxHeartbeats 2000000 in
theorem goneTc (h : Tq w t F T N) (hN : N ≤ 3000000000000) (R : Rn) (S : St) (hR : (R, S) ∈ T.rs) (cc : Bool) : Calls Tryz.prog 45 #[PT t, rv R, .bool cc] w fun e w' => e = .returned (.agg #[.bool cc, .bool (goneB T R cc)]) ∧ TqE w w' t F (goneT T R cc) (N + 1) := by
  obtain ⟨W, hW⟩ : ∃ W, W = (w.alloc (bxR R)).alloc bxG := ⟨_, rfl⟩
  have t0 : Touch [] w W := by rw [hW]; exact ((Touch.refl _ _).alloc _).alloc _
  have hF := h.lt
  have h1 := h.keep0 t0
  have hk : Ok (kOf R) := h.iv.ok _ hR
  have hr := h.iv.rng _ hR
  have hbg := h.iv.bg.2
  simp only at hr
  have HI := hid (isCurT W t F T N h1 hN R.run (W64.mk (by omega) (by omega)))
  rw [curBy_mem T N h.iv hR] at HI
  have HO : Hid (∀ w2, Touch [] W w2 → Calls Tryz.prog 50 #[PT t, kv (kOf R)] w2 fun e w' => e = .returned (.tuple #[]) ∧ TqE W w' t F (goOn T (kOf R)) (N + 1)) := fun w2 T' => (goOnT (h1.keep0 T') hN hk).mono (fun e w' hh => ⟨hh.1, TqE.from0 T' hh.2⟩)
  have hsz : W.heap.size = w.heap.size + 1 + 1 := by rw [hW]; simp
  have hb1 : W.heap[w.heap.size + 1]? = some (.cells #[.bool false, .bool false] 57 (0, 0)) := by rw [hW]; have := heap_alloc_new (w.alloc (bxR R)) bxG; rwa [World.size_alloc] at this
  have hb0 : W.heap[w.heap.size]? = some (.cells #[.int .i64 R.run, .int .u16 R.sp, .string R.nm, .int .i64 R.gen, .bool R.rf] 80 (0, 0)) := by rw [hW]; exact (Below.heap_alloc _ _ _ (by simp)).trans (heap_alloc_new w (bxR R))
  have H0 : Hid (∀ w2, Touch [] W w2 → w2.cell? ⟨w.heap.size, 0, none⟩ = some (.int .i64 R.run) ∧ w2.cell? ⟨w.heap.size, 1, none⟩ = some (.int .u16 R.sp) ∧ w2.cell? ⟨w.heap.size, 2, none⟩ = some (.string R.nm)) := fun w2 T' => by
    have q := T'.keep hb0 (by simp)
    exact ⟨cell_at q rfl, cell_at q rfl, cell_at q rfl⟩
  have H1 : Hid (∀ w2, Touch F W w2 → w2.cell? ⟨w.heap.size + 1, 0, none⟩ = some (.bool false) ∧ w2.cell? ⟨w.heap.size + 1, 1, none⟩ = some (.bool false) ∧ ∀ i, w2.frozen? ⟨w.heap.size + 1, i, none⟩ = false) := fun w2 T' => by
    have q := T'.keep hb1 (fun e => by have := hF _ e; omega)
    exact ⟨cell_at q rfl, cell_at q rfl, froz_at q⟩
  have HT : Hid (∀ w1 w2 T1, TqE W w1 t F T1 (N + 1) → Touch [w.heap.size + 1] w1 w2 → TqE w w2 t F T1 (N + 1)) := fun w1 w2 T1 q T2 => TqE.box t0 q hF (by omega) (by omega) T2
  have HS : Hid (∀ w1, Touch [] W w1 → TqE W w1 t F T (N + 1)) := fun w1 T' => TqE.touch h1 T' (Nat.le_succ N)
  have HTF : Hid (∀ w1, TqE W w1 t F (goOn T (kOf R)) (N + 1) → Touch F W w1) := fun w1 q => by obtain ⟨_, _, q, _⟩ := q; exact q
  have TR : Touch [] W W := Touch.refl _ _
  obtain ⟨x0, x1, x2⟩ := H0.out W TR
  obtain ⟨y0, y1, yf⟩ := H1.out W (Touch.refl _ _)
  have tset : ∀ (w1 : World) (b1 b2 : Bool), Touch [w.heap.size + 1] w1 ((w1.setCell ⟨w.heap.size + 1, 0, none⟩ (.bool b1)).setCell ⟨w.heap.size + 1, 1, none⟩ (.bool b2)) := fun w1 b1 b2 => ((Touch.refl _ _).setCell (Or.inl (by simp)) _).setCell (Or.inl (by simp)) _
  have TS := hid tset
  clear h h1 hF hk hr hbg hb0 hb1 tset
  unfold goneT goneB
  unfold kv kOf at HO
  unfold bxR bxG at hW
  unfold PT rv at *
  cases cc with
  | false =>
    simp only [Bool.false_and]
    rw [if_neg (by simp)]
    go_enter Tryz.func45, Tryz.ntmps45
    go_upto_region 1 with fail
    rw [← hW]
    clear hW
    go_wp2
    exact bodyPost_ret (v := .agg #[.bool false, .bool false]) (by simp [results, Tryz.results45, go_sem, y0, y1]) rfl ⟨rfl, HT.out _ _ _ (HS.out _ TR) (TS.out _ _ _)⟩
  | true =>
    simp only [Bool.true_and]
    cases hc : isCur T R with
    | false =>
      rw [hc] at HI
      rw [if_neg (by simp)]
      clear hc
      go_enter Tryz.func45, Tryz.ntmps45
      go_upto_region 1 with fail
      rw [← hW]
      clear hW
      go_wp2_with (go_at_call 28; refine HI.out.mono ?_; rintro e w2 ⟨rfl, t2⟩; clear x0 x1 x2 y0 y1 yf; obtain ⟨y0, y1, yf⟩ := H1.out w2 (t2.mono (fun _ e => by cases e)); have T2 := hid t2; clear t2)
      exact bodyPost_ret (v := .agg #[.bool true, .bool false]) (by simp [results, Tryz.results45, go_sem, y0, y1]) rfl ⟨rfl, HT.out _ _ _ (HS.out _ T2.out) (TS.out _ _ _)⟩
    | true =>
      rw [hc] at HI
      rw [if_pos (by simp)]
      clear hc
      go_enter Tryz.func45, Tryz.ntmps45
      go_upto_region 1 with fail
      rw [← hW]
      clear hW
      go_wp2_with (first
        | (go_at_call 28; refine HI.out.mono ?_; rintro e w2 ⟨rfl, t2⟩; clear x0 x1 x2 y0 y1 yf; obtain ⟨x0, x1, x2⟩ := H0.out w2 t2; have T2 := hid t2; clear t2)
        | (go_at_call 50; refine (HO.out _ T2.out).mono ?_; rintro e w3 ⟨rfl, r3⟩; clear x0 x1 x2; obtain ⟨y0, y1, yf⟩ := H1.out w3 (HTF.out _ r3); have R3 := hid r3; clear r3))
      exact bodyPost_ret (v := .agg #[.bool true, .bool true]) (by simp [results, Tryz.results45, go_sem, y0, y1]) rfl ⟨rfl, HT.out _ _ _ R3.out (TS.out _ _ _)⟩
theorem mem_setS {n : Int} {R : Rn} {S S' : St} (h : (R, S) ∈ T.rs) (hn : R.run = n) : (R, S') ∈ (setS T n S').rs := by
  simp only [setS, List.mem_map]
  exact ⟨(R, S), h, by simp [putS, hn]⟩
/-- A record's step within a table, and what may be asked behind it. -/
structure Stp (W w2 : World) (t : Nat) (F F1 : List Nat) (T1 : Tb) (q : Rb) (S' : St) (N : Nat) : Prop where
  tq : Tq w2 t F1 T1 N
  tf : Touch F W w2
  nf : Nf W F F1
  rq : ∃ F', Rq w2 q.b F' q.R S' N
theorem Tm.stp {W w2 : World} {t p c : Nat} {g : Option Nat} {nc ng : Nat} {A B : List Rb} {q : Rb} {T : Tb} {N M : Nat} {S' : St} (h : Tm W t p c g nc ng (A ++ q :: B) T N) (hN : N ≤ M) (hL : Lv T) (E : RqE W w2 q.b q.F q.R S' M) (hE : S'.ended = false) : ∃ F1, Stp W w2 t (fpT t p c g (A ++ q :: B)) F1 (setS T q.R.run S') q S' M := by
  obtain ⟨f, r1, r2, r3⟩ := h.step E hN
  obtain ⟨F', e1, _⟩ := E
  exact ⟨_, ⟨_, _, _, _, _, _, rfl, r1, hL.setS hE⟩, r2.mono fp_rec, fp_step r3, F', e1⟩
set_option maxHeartbeats 2000000 in
theorem tLeave_no (h : Tq w t F T N) (n x : Int) (hn : W64 n) (hr : runOf T n = none) : Calls Tryz.prog 12 #[PT t, .int .i64 n, .int .i64 x] w fun e w' => e = .returned (.tuple #[.agg #[.bool false, .bool false], .int .i64 122]) ∧ Touch [] w w' := by
  obtain ⟨p, c, g, nc, ng, Ps, rfl, h, hL⟩ := h
  have HR := hid (fun o => tRecord (h.keep0 ((Touch.refl _ _).alloc o)) n hn)
  rw [h.notIn hr] at HR
  simp only [Option.getD_none] at HR
  clear h
  unfold PT at *
  go_enter Tryz.func12, Tryz.ntmps12
  go_wp2_with (go_at_call 42; refine (HR.out _).mono ?_; rintro e w2 ⟨rfl, rfl⟩)
  refine bodyPost_ret (v := .tuple #[.agg #[.bool false, .bool false], .int .i64 122]) (by simp [results, Tryz.results12, go_sem]) rfl ⟨rfl, ?_⟩
  repeat (first | exact Touch.refl _ _ | apply Touch.alloc | (refine Touch.setCell ?_ (Or.inr (by simp)) _))
set_option maxHeartbeats 2000000 in
theorem tRel_no (h : Tq w t F T N) (n : Int) (hn : W64 n) (hr : runOf T n = none) : Calls Tryz.prog 14 #[PT t, .int .i64 n] w fun e w' => e = .returned (.tuple #[.agg #[.bool false, .bool false], .int .i64 122]) ∧ Touch [] w w' := by
  obtain ⟨p, c, g, nc, ng, Ps, rfl, h, hL⟩ := h
  have HR := hid (fun o => tRecord (h.keep0 ((Touch.refl _ _).alloc o)) n hn)
  rw [h.notIn hr] at HR
  simp only [Option.getD_none] at HR
  clear h
  unfold PT at *
  go_enter Tryz.func14, Tryz.ntmps14
  go_wp2_with (go_at_call 42; refine (HR.out _).mono ?_; rintro e w2 ⟨rfl, rfl⟩)
  refine bodyPost_ret (v := .tuple #[.agg #[.bool false, .bool false], .int .i64 122]) (by simp [results, Tryz.results14, go_sem]) rfl ⟨rfl, ?_⟩
  repeat (first | exact Touch.refl _ _ | apply Touch.alloc | (refine Touch.setCell ?_ (Or.inr (by simp)) _))
set_option maxHeartbeats 4000000 in
theorem tLeave_at {p c : Nat} {g : Option Nat} {nc ng : Nat} {A B : List Rb} {q : Rb} (h : Tm w t p c g nc ng (A ++ q :: B) T N) (hN : N ≤ 3000000000000) (hL : Lv T) (x : Int) (hx : W64 x) :
    Calls Tryz.prog 12 #[PT t, .int .i64 q.R.run, .int .i64 x] w fun e w' => e = .returned (.tuple #[.agg #[.bool (leaveB q.S x), .bool (goneB T q.R (leaveB q.S x))], .int .i64 (leaveE q.S x)]) ∧ TqE w w' t (fpT t p c g (A ++ q :: B)) (goneT (setS T q.R.run (leaveS q.S x)) q.R (leaveB q.S x)) (N + 1) := by
  obtain ⟨F, hFe⟩ : ∃ F, F = fpT t p c g (A ++ q :: B) := ⟨_, rfl⟩
  obtain ⟨W, hW⟩ : ∃ W, W = w.alloc bxG := ⟨_, rfl⟩
  have t0 : Touch [] w W := by rw [hW]; exact (Touch.refl _ _).alloc _
  have hF : ∀ d, d ∈ F → d < w.heap.size := by rw [hFe]; exact h.lt
  have h1 := h.keep0 t0
  have HR := hid (tRecord_at h1 hN)
  have HLv := hid (leave10 W q.b N q.F q.R q.S (h1.recs q (by simp)) hN x hx)
  have hE := leave_live (hL _ h.memR) x
  have HP : Hid (∀ w2, RqE W w2 q.b q.F q.R (leaveS q.S x) N → ∃ F1, Stp W w2 t F F1 (setS T q.R.run (leaveS q.S x)) q (leaveS q.S x) N) := fun w2 e => by rw [hFe]; exact h1.stp (Nat.le_refl N) hL e hE
  have hm := mem_setS T (S' := leaveS q.S x) h.memR rfl
  have HG : Hid (∀ w2 F1 w3, Stp W w2 t F F1 (setS T q.R.run (leaveS q.S x)) q (leaveS q.S x) N → Touch [] w2 w3 → Calls Tryz.prog 45 #[PT t, rv q.R, .bool (leaveB q.S x)] w3 fun e w' => e = .returned (.agg #[.bool (leaveB q.S x), .bool (goneB T q.R (leaveB q.S x))]) ∧ TqE W w' t F (goneT (setS T q.R.run (leaveS q.S x)) q.R (leaveB q.S x)) (N + 1)) := fun w2 F1 w3 s T' => (goneTc w3 t F1 _ N (s.tq.keep0 T') hN q.R _ hm _).mono (fun e w' hh => ⟨hh.1, TqE.trans (T1 := T) s.tf s.nf (TqE.from0 T' hh.2)⟩)
  have HRn : Hid (∀ w2 F1, Stp W w2 t F F1 (setS T q.R.run (leaveS q.S x)) q (leaveS q.S x) N → Calls Tryz.prog 46 #[PT q.b] w2 fun e w' => e = .returned (rv q.R) ∧ Touch [] w2 w') := fun w2 F1 s => by
    obtain ⟨F', rq⟩ := s.rq
    exact run8 w2 q.b N F' q.R _ rq
  have HZ : Hid (leaveE q.S x ≠ 0 → ∀ w2 F1 w3, Stp W w2 t F F1 (setS T q.R.run (leaveS q.S x)) q (leaveS q.S x) N → Touch [w.heap.size] w2 w3 → leaveB q.S x = false ∧ TqE w w3 t F (goneT (setS T q.R.run (leaveS q.S x)) q.R (leaveB q.S x)) (N + 1)) := fun hz w2 F1 w3 s T3 => by
    have hb : leaveB q.S x = false := by unfold leaveB; rw [if_neg hz]
    refine ⟨hb, ?_⟩
    rw [hb]
    have e2 : goneT (setS T q.R.run (leaveS q.S x)) q.R false = setS T q.R.run (leaveS q.S x) := by simp [goneT, goneB]
    rw [e2]
    exact TqE.box t0 ⟨F1, s.tq.mono (Nat.le_succ N), s.tf, s.nf⟩ hF (Nat.le_refl _) (by rw [hW]; simp) T3
  have HT : Hid (∀ w1 w2 T1, TqE W w1 t F T1 (N + 1) → Touch [w.heap.size] w1 w2 → TqE w w2 t F T1 (N + 1)) := fun w1 w2 T1 q' T2 => TqE.box t0 q' hF (Nat.le_refl _) (by rw [hW]; simp) T2
  have hb1 : W.heap[w.heap.size]? = some (.cells #[.bool false, .bool false] 57 (0, 0)) := by rw [hW]; exact heap_alloc_new w bxG
  have H1 : Hid (∀ w2, Touch F W w2 → w2.cell? ⟨w.heap.size, 0, none⟩ = some (.bool false) ∧ w2.cell? ⟨w.heap.size, 1, none⟩ = some (.bool false) ∧ ∀ i, w2.frozen? ⟨w.heap.size, i, none⟩ = false) := fun w2 T' => by
    have q' := T'.keep hb1 (fun e => by have := hF _ e; omega)
    exact ⟨cell_at q' rfl, cell_at q' rfl, froz_at q'⟩
  have HTF : Hid (∀ w1 T1, TqE W w1 t F T1 (N + 1) → Touch F W w1) := fun w1 T1 q' => by obtain ⟨_, _, q', _⟩ := q'; exact q'
  have tset : ∀ (w1 : World) (b1 b2 : Bool), Touch [w.heap.size] w1 ((w1.setCell ⟨w.heap.size, 0, none⟩ (.bool b1)).setCell ⟨w.heap.size, 1, none⟩ (.bool b2)) := fun w1 b1 b2 => ((Touch.refl _ _).setCell (Or.inl (by simp)) _).setCell (Or.inl (by simp)) _
  have TS := hid tset
  rw [← hFe]
  clear h h1 hF hm hb1 tset hE t0 hFe hL
  unfold bxG at hW
  by_cases hz : leaveE q.S x = 0
  · rw [hz] at HLv ⊢
    clear HZ hz
    generalize goneT (setS T q.R.run (leaveS q.S x)) q.R (leaveB q.S x) = T2 at *
    generalize setS T q.R.run (leaveS q.S x) = T1 at *
    generalize goneB T q.R (leaveB q.S x) = B2 at *
    generalize leaveS q.S x = S' at *
    generalize leaveB q.S x = B1 at *
    unfold PT rv at *
    go_enter Tryz.func12, Tryz.ntmps12
    go_upto_region 1 with fail
    rw [← hW]
    clear hW
    go_wp2_with (first
      | (go_at_call 42; refine HR.out.mono ?_; rintro e w2 ⟨rfl, rfl⟩)
      | (go_at_call 44; refine HLv.out.mono ?_; rintro e w2 ⟨rfl, r2⟩; obtain ⟨F1, s2⟩ := HP.out _ r2; have S2 := hid s2; clear r2 s2)
      | (go_at_call 46; refine (HRn.out _ _ S2.out).mono ?_; rintro e w3 ⟨rfl, t3⟩; have T3 := hid t3; clear t3)
      | (go_at_call 45; refine (HG.out _ _ _ S2.out T3.out).mono ?_; rintro e w4 ⟨rfl, r4⟩; obtain ⟨y0, y1, yf⟩ := H1.out w4 (HTF.out _ _ r4); have R4 := hid r4; clear r4))
    exact bodyPost_ret (v := .tuple #[.agg #[.bool B1, .bool B2], .int .i64 0]) (by simp [results, Tryz.results12, go_sem, y0, y1]) rfl ⟨rfl, HT.out _ _ _ R4.out (TS.out _ _ _)⟩
  · have hz' : (leaveE q.S x != 0) = true := by simp [hz]
    have hb : leaveB q.S x = false := by unfold leaveB; rw [if_neg hz]
    have HZ' := hid (HZ.out hz)
    clear HZ hz HG HRn HT HTF
    rw [hb] at HLv HZ' ⊢
    simp only [goneB, Bool.false_and]
    clear hb
    generalize goneT (setS T q.R.run (leaveS q.S x)) q.R false = T2 at *
    generalize setS T q.R.run (leaveS q.S x) = T1 at *
    generalize leaveS q.S x = S' at *
    generalize leaveE q.S x = E at *
    unfold PT at *
    go_enter Tryz.func12, Tryz.ntmps12
    go_upto_region 1 with fail
    rw [← hW]
    clear hW
    go_wp2_with (first
      | (go_at_call 42; refine HR.out.mono ?_; rintro e w2 ⟨rfl, rfl⟩)
      | (go_at_call 44; refine HLv.out.mono ?_; rintro e w2 ⟨rfl, r2⟩; obtain ⟨F1, s2⟩ := HP.out _ r2; have S2 := hid s2; obtain ⟨y0, y1, yf⟩ := H1.out w2 s2.tf; clear r2 s2))
    exact bodyPost_ret (v := .tuple #[.agg #[.bool false, .bool false], .int .i64 E]) (by simp [results, Tryz.results12, go_sem, y0, y1]) rfl ⟨rfl, (HZ'.out _ _ _ S2.out (TS.out _ _ _)).2⟩
set_option maxHeartbeats 4000000 in
theorem tRel_at {p c : Nat} {g : Option Nat} {nc ng : Nat} {A B : List Rb} {q : Rb} (h : Tm w t p c g nc ng (A ++ q :: B) T N) (hN : N ≤ 3000000000000) (hL : Lv T) :
    Calls Tryz.prog 14 #[PT t, .int .i64 q.R.run] w fun e w' => e = .returned (.tuple #[.agg #[.bool (relB q.S), .bool (goneB T q.R (relB q.S))], .int .i64 0]) ∧ TqE w w' t (fpT t p c g (A ++ q :: B)) (goneT (setS T q.R.run (relS q.S)) q.R (relB q.S)) (N + 1) := by
  obtain ⟨F, hFe⟩ : ∃ F, F = fpT t p c g (A ++ q :: B) := ⟨_, rfl⟩
  obtain ⟨W, hW⟩ : ∃ W, W = w.alloc bxG := ⟨_, rfl⟩
  have t0 : Touch [] w W := by rw [hW]; exact (Touch.refl _ _).alloc _
  have hF : ∀ d, d ∈ F → d < w.heap.size := by rw [hFe]; exact h.lt
  have h1 := h.keep0 t0
  have HR := hid (tRecord_at h1 hN)
  have HLv : Hid (∀ w2, Touch [] W w2 → Calls Tryz.prog 48 #[PT q.b] w2 fun e w' => e = .returned (.bool (relB q.S)) ∧ RqE w2 w' q.b q.F q.R (relS q.S) N) := fun w2 T' => release14 w2 q.b N q.F q.R q.S ((h1.recs q (by simp)).keep0 T') hN
  have hE := rel_live (hL _ h.memR)
  have HP : Hid (∀ w2 w3, Touch [] W w2 → RqE w2 w3 q.b q.F q.R (relS q.S) N → ∃ F1, Stp w2 w3 t F F1 (setS T q.R.run (relS q.S)) q (relS q.S) N) := fun w2 w3 T' e => by rw [hFe]; exact (h1.keep0 T').stp (Nat.le_refl N) hL e hE
  have hm := mem_setS T (S' := relS q.S) h.memR rfl
  have HG : Hid (∀ w2 w3 F1, Touch [] W w2 → Stp w2 w3 t F F1 (setS T q.R.run (relS q.S)) q (relS q.S) N → Calls Tryz.prog 45 #[PT t, rv q.R, .bool (relB q.S)] w3 fun e w' => e = .returned (.agg #[.bool (relB q.S), .bool (goneB T q.R (relB q.S))]) ∧ TqE W w' t F (goneT (setS T q.R.run (relS q.S)) q.R (relB q.S)) (N + 1)) := fun w2 w3 F1 T' s => (goneTc w3 t F1 _ N s.tq hN q.R _ hm _).mono (fun e w' hh => ⟨hh.1, TqE.from0 T' (TqE.trans (T1 := T) s.tf s.nf hh.2)⟩)
  have HRn := hid (run8 W q.b N q.F q.R q.S (h1.recs q (by simp)))
  have HT : Hid (∀ w1 w2 T1, TqE W w1 t F T1 (N + 1) → Touch [w.heap.size] w1 w2 → TqE w w2 t F T1 (N + 1)) := fun w1 w2 T1 q' T2 => TqE.box t0 q' hF (Nat.le_refl _) (by rw [hW]; simp) T2
  have hb1 : W.heap[w.heap.size]? = some (.cells #[.bool false, .bool false] 57 (0, 0)) := by rw [hW]; exact heap_alloc_new w bxG
  have H1 : Hid (∀ w2, Touch F W w2 → w2.cell? ⟨w.heap.size, 0, none⟩ = some (.bool false) ∧ w2.cell? ⟨w.heap.size, 1, none⟩ = some (.bool false) ∧ ∀ i, w2.frozen? ⟨w.heap.size, i, none⟩ = false) := fun w2 T' => by
    have q' := T'.keep hb1 (fun e => by have := hF _ e; omega)
    exact ⟨cell_at q' rfl, cell_at q' rfl, froz_at q'⟩
  have HTF : Hid (∀ w1 T1, TqE W w1 t F T1 (N + 1) → Touch F W w1) := fun w1 T1 q' => by obtain ⟨_, _, q', _⟩ := q'; exact q'
  have tset : ∀ (w1 : World) (b1 b2 : Bool), Touch [w.heap.size] w1 ((w1.setCell ⟨w.heap.size, 0, none⟩ (.bool b1)).setCell ⟨w.heap.size, 1, none⟩ (.bool b2)) := fun w1 b1 b2 => ((Touch.refl _ _).setCell (Or.inl (by simp)) _).setCell (Or.inl (by simp)) _
  have TS := hid tset
  rw [← hFe]
  clear h h1 hF hm hb1 tset hE t0 hFe hL
  unfold bxG at hW
  generalize goneT (setS T q.R.run (relS q.S)) q.R (relB q.S) = T2 at *
  generalize setS T q.R.run (relS q.S) = T1 at *
  generalize goneB T q.R (relB q.S) = B2 at *
  generalize relS q.S = S' at *
  generalize relB q.S = B1 at *
  unfold PT rv at *
  go_enter Tryz.func14, Tryz.ntmps14
  go_upto_region 1 with fail
  rw [← hW]
  clear hW
  go_wp2_with (first
    | (go_at_call 42; refine HR.out.mono ?_; rintro e w2 ⟨rfl, rfl⟩)
    | (go_at_call 46; refine HRn.out.mono ?_; rintro e w3 ⟨rfl, t3⟩; have T3 := hid t3; clear t3)
    | (go_at_call 48; refine (HLv.out _ T3.out).mono ?_; rintro e w4 ⟨rfl, r2⟩; obtain ⟨F1, s2⟩ := HP.out _ _ T3.out r2; have S2 := hid s2; clear r2 s2)
    | (go_at_call 45; refine (HG.out _ _ _ T3.out S2.out).mono ?_; rintro e w5 ⟨rfl, r4⟩; obtain ⟨y0, y1, yf⟩ := H1.out w5 (HTF.out _ _ r4); have R4 := hid r4; clear r4))
  exact bodyPost_ret (v := .tuple #[.agg #[.bool B1, .bool B2], .int .i64 0]) (by simp [results, Tryz.results14, go_sem, y0, y1]) rfl ⟨rfl, HT.out _ _ _ R4.out (TS.out _ _ _)⟩
theorem leaveT (h : Tq w t F T N) (hN : N ≤ 3000000000000) (n x : Int) (hn : W64 n) (hx : W64 x) : Calls Tryz.prog 12 #[PT t, .int .i64 n, .int .i64 x] w fun e w' => e = .returned (.tuple #[.agg #[.bool (tLeaveC T n x), .bool (tLeaveA T n x)], .int .i64 (tLeaveE T n x)]) ∧ TqE w w' t F (tLeave T n x) (N + 1) := by
  unfold tLeaveC tLeaveA tLeaveE tLeave
  cases hr : runOf T n with
  | none => exact (tLeave_no w t F T N h n x hn hr).mono (fun e w' hh => ⟨hh.1, TqE.touch h hh.2 (Nat.le_succ N)⟩)
  | some r =>
    obtain ⟨p, c, g, nc, ng, Ps, rfl, h, hL⟩ := h
    obtain ⟨A, q, B, rfl, rfl, rfl, _⟩ := h.found hr
    exact tLeave_at w t T N h hN hL x hx
theorem relT (h : Tq w t F T N) (hN : N ≤ 3000000000000) (n : Int) (hn : W64 n) : Calls Tryz.prog 14 #[PT t, .int .i64 n] w fun e w' => e = .returned (.tuple #[.agg #[.bool (tRelC T n), .bool (tRelA T n)], .int .i64 (tRelE T n)]) ∧ TqE w w' t F (tRel T n) (N + 1) := by
  unfold tRelC tRelA tRelE tRel
  cases hr : runOf T n with
  | none => exact (tRel_no w t F T N h n hn hr).mono (fun e w' hh => ⟨hh.1, TqE.touch h hh.2 (Nat.le_succ N)⟩)
  | some r =>
    obtain ⟨p, c, g, nc, ng, Ps, rfl, h, hL⟩ := h
    obtain ⟨A, q, B, rfl, rfl, rfl, _⟩ := h.found hr
    exact tRel_at w t T N h hN hL
end
end Go.Proofs.YtpihhlllembdeaaGreat
