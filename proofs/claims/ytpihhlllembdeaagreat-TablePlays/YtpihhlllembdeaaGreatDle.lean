/- The contract of the document's left: somebody's interest went. -/
import Derived.Test.YtpihhlllembdeaaGreatDon
namespace Go.Proofs.YtpihhlllembdeaaGreat
open Go.RowKit Go.Maps Go.ChangeMaps
set_option linter.unusedVariables false
set_option linter.unusedSimpArgs false
theorem set1 {wr : World} {Z : Nat} {t2 : TypeId} {cs : Array Value} (hz : wr.heap[Z]? = some (.cells cs t2 (0, 0))) (j : Nat) (v : Value) : (wr.setCell ⟨Z, j, none⟩ v).heap[Z]? = some (.cells (cs.setIfInBounds j v) t2 (0, 0)) ∧ Touch [Z] wr (wr.setCell ⟨Z, j, none⟩ v) :=
  ⟨bset hz _, (Touch.refl _ _).setCell (Or.inl (by simp)) _⟩
def onG (gs : List (K × Int)) (k : K) (b : Bool) : List (K × Int) := if b then onL gs k else gs
def lbx (d : De) : Array Value := #[.int .i64 d.R.run, .int .i64 d.R.gen, .int .u16 d.R.sp, .string d.R.nm, .bool d.R.rf, .bool d.S.kept, .bool d.S.canc, d.v]
set_option maxHeartbeats 4000000 in
set_option maxRecDepth 100000 in
theorem left_ (w : World) (fl bg : Int) (la ga va : Option Addr) (n lc gn gc i vn vc : Nat) (ds : List De) (gs : List (K × Int)) (R : Rn) (S : St) (hn : n = ds.length) (hl : n ≤ 1700000000000) (hgn : gn = gs.length) (hgl : gn ≤ 2000000000000) (h0 : 0 ≤ ofL gs (kOf R)) (h1 : ofL gs (kOf R) ≤ 2000000000000) (hi : i < n) (hw : vn = S.who.length) (hwl : vn ≤ 2000000000000) (hE : S.ended = false) (hC : S.canc = false) (h : w.ownsRow 0 78 8 (.slice la n lc) n (ds.flatMap row8)) (h2 : w.ownsRow 0 122 3 (.slice ga gn gc) gn (gs.flatMap row3)) (hv : ∀ d ∈ ds, ∃ a m c, d.v = .slice a m c) :
    Calls Tryz.prog 47 #[.agg #[.int .i64 fl, .int .i64 bg, .slice la n lc, .slice ga gn gc], .int .i64 (i : Int), dv8 ⟨R, S, .slice va vn vc⟩] w fun e w' => ∃ a c b m c2, e = .returned (.tuple #[.agg #[.int .i64 fl, .int .i64 bg, .slice a n c, .slice b m c2], .bool (leftB S), .bool (leftB S && isC gs R)]) ∧ w'.ownsRow w.heap.size 78 8 (.slice a n c) n ((ds.set i ⟨R, leftS S, .slice va vn vc⟩).flatMap row8) ∧ m = (onG gs (kOf R) (leftB S && isC gs R)).length ∧ w'.ownsRow 0 122 3 (.slice b m c2) m ((onG gs (kOf R) (leftB S && isC gs R)).flatMap row3) ∧ (∀ q, (Value.slice b m c2).ownBlock = some q → (Value.slice ga gn gc).ownBlock = some q ∨ w.heap.size ≤ q) ∧ Touch [] w w' := by
  obtain ⟨V, hV⟩ : ∃ V, V = ((w.alloc (.cells #[.int .i64 fl, .int .i64 bg, .slice la n lc, .slice ga gn gc] 31)).alloc (bxE ⟨R, S, .slice va vn vc⟩)).alloc (.cells #[.int .i64 0, .int .i64 0, .slice none 0 0, .slice none 0 0] 31) := ⟨_, rfl⟩
  have HTc : Hid (Touch [] w V) := by rw [hV]; exact (((Touch.refl _ _).alloc _).alloc _).alloc _
  have hsz : V.heap.size = w.heap.size + 3 := by rw [hV]; simp
  have kT : V.heap[w.heap.size]? = some (.cells #[.int .i64 fl, .int .i64 bg, .slice la n lc, .slice ga gn gc] 31 (0, 0)) := by rw [hV]; exact (Below.heap_alloc _ _ _ (by simp; omega)).trans ((Below.heap_alloc _ _ _ (by simp)).trans (heap_alloc_new w _))
  have kE : V.heap[w.heap.size + 1]? = some (.cells #[.int .i64 R.run, .int .i64 R.gen, .int .u16 R.sp, .string R.nm, .bool R.rf, .bool S.kept, .bool S.canc, .slice va vn vc] 78 (0, 0)) := by
    rw [hV]
    have := heap_alloc_new (w.alloc (.cells #[.int .i64 fl, .int .i64 bg, .slice la n lc, .slice ga gn gc] 31)) (bxE ⟨R, S, .slice va vn vc⟩)
    rw [World.size_alloc] at this
    exact (Below.heap_alloc _ _ _ (by simp)).trans this
  have kZ : V.heap[w.heap.size + 1 + 1]? = some (.cells #[.int .i64 0, .int .i64 0, .slice none 0 0, .slice none 0 0] 31 (0, 0)) := by
    rw [hV]
    have := heap_alloc_new ((w.alloc (.cells #[.int .i64 fl, .int .i64 bg, .slice la n lc, .slice ga gn gc] 31)).alloc (bxE ⟨R, S, .slice va vn vc⟩)) (.cells #[.int .i64 0, .int .i64 0, .slice none 0 0, .slice none 0 0] 31)
    rwa [World.size_alloc, World.size_alloc] at this
  rw [hC] at kE
  have HI : Hid (∀ w' ,Touch [] w w' → Calls Tryz.prog 69 #[.agg #[.int .i64 R.run, .int .i64 R.gen, .int .u16 R.sp, .string R.nm, .bool R.rf, .bool S.kept, .bool false, .slice va vn vc]] w' fun e w2 => e = .returned (.int .i64 (inter S)) ∧ Touch [] w' w2) := fun w' X => by have := interest_ w' R S va vn vc hw (by omega) hE; unfold dv8 at this; simp only [hC] at this; exact this
  have HC : Hid (∀ w', Touch [] w w' → Calls Tryz.prog 29 #[.agg #[.int .i64 fl, .int .i64 bg, .slice la n lc, .slice ga gn gc], .agg #[.int .i64 R.run, .int .i64 R.gen, .int .u16 R.sp, .string R.nm, .bool R.rf, .bool S.kept, .bool false, .slice va vn vc]] w' fun e w2 => e = .returned (.bool (isC gs R)) ∧ Touch [] w' w2) := fun w' X => by have := isCur_ w' fl bg la ga va n lc gn gc vn vc gs R S hgn (by omega) (own_touch h2 X (fun _ _ e => by cases e)); unfold dv8 at this; simp only [hC] at this; exact this
  have HW : Hid (∀ w' b, leftB S = b → Touch [] w w' → Calls Tryz.prog 41 #[.agg #[.int .i64 fl, .int .i64 bg, .slice la n lc, .slice ga gn gc], .int .i64 (i : Int), .agg #[.int .i64 R.run, .int .i64 R.gen, .int .u16 R.sp, .string R.nm, .bool R.rf, .bool S.kept, .bool b, .slice va vn vc]] w' fun e w2 => ∃ a c, e = .returned (.agg #[.int .i64 fl, .int .i64 bg, .slice a n c, .slice ga gn gc]) ∧ w2.ownsRow w'.heap.size 78 8 (.slice a n c) n ((ds.set i ⟨R, leftS S, .slice va vn vc⟩).flatMap row8) ∧ Touch [] w' w2) := fun w' b hb X => by
    have := with_ w' fl bg la ga va n lc gn gc i vn vc ds R (leftS S) hn hl hi (own_touch h X (fun _ _ e => by cases e)) hv
    unfold dv8 leftS at this
    simp only [hb] at this
    unfold leftS
    rw [hb]
    exact this
  have HO : Hid (∀ w' a c, Touch [] w w' → Calls Tryz.prog 51 #[.agg #[.int .i64 fl, .int .i64 bg, .slice a n c, .slice ga gn gc], kv (kOf R)] w' fun e w2 => ∃ b c2, e = .returned (.agg #[.int .i64 fl, .int .i64 bg, .slice a n c, .slice b (onL gs (kOf R)).length c2]) ∧ w2.ownsRow w'.heap.size 122 3 (.slice b (onL gs (kOf R)).length c2) (onL gs (kOf R)).length ((onL gs (kOf R)).flatMap row3) ∧ Touch [] w' w2) := fun w' a c X => on_ w' fl bg a ga n c gn gc gs (kOf R) hgn (by omega) h0 (by omega) (own_touch h2 X (fun _ _ e => by cases e))
  have HE : Hid (∀ w' (a b : Option Addr) (c c2 m : Nat), w'.ownsRow (w.heap.size + 3) 78 8 (.slice a n c) n ((ds.set i ⟨R, leftS S, .slice va vn vc⟩).flatMap row8) → ((m = gn ∧ b = ga ∧ c2 = gc ∧ (leftB S && isC gs R) = false) ∨ (m = (onL gs (kOf R)).length ∧ (leftB S && isC gs R) = true ∧ w'.ownsRow (w.heap.size + 3) 122 3 (.slice b m c2) m ((onL gs (kOf R)).flatMap row3))) → Touch [] w w' → Touch [] w w' → ∀ w2, Touch [w.heap.size + 1 + 1] w' w2 → w2.ownsRow w.heap.size 78 8 (.slice a n c) n ((ds.set i ⟨R, leftS S, .slice va vn vc⟩).flatMap row8) ∧ m = (onG gs (kOf R) (leftB S && isC gs R)).length ∧ w2.ownsRow 0 122 3 (.slice b m c2) m ((onG gs (kOf R) (leftB S && isC gs R)).flatMap row3) ∧ (∀ q, (Value.slice b m c2).ownBlock = some q → (Value.slice ga gn gc).ownBlock = some q ∨ w.heap.size ≤ q) ∧ Touch [] w w2) := fun w' a b c c2 m ho hb X _ w2 Y => by
    have Z := X.trans Y (fun b hb => Or.inr (by simp at hb; omega))
    refine ⟨own_base (own_touch ho Y (fun q hq e => by have := (ho.lt q hq).1; simp at e; omega)) (by omega), ?_⟩
    rcases hb with ⟨rfl, rfl, rfl, e⟩ | ⟨rfl, e, hb⟩
    · rw [e]
      exact ⟨hgn, own_touch h2 Z (fun _ _ e => by cases e), fun q hq => Or.inl hq, Z⟩
    · rw [e]
      exact ⟨rfl, own_base (own_touch hb Y (fun q hq e => by have := (hb.lt q hq).1; simp at e; omega)) (Nat.zero_le _), fun q hq => Or.inr (by have := (hb.lt q hq).1; omega), Z⟩
  have HS := hid hsz
  have zi : (i : Int) < (n : Int) := by omega
  have zn : (n : Int) ≤ 1700000000000 := by omega
  have hqI : (inter S == 0) = leftB S := by unfold leftB; exact Bool.beq_eq_decide_eq _ _
  have HV3 : Hid (w.heap.size + 3 ≤ V.heap.size) := hid (by omega)
  unfold bxE at hV
  simp only [hC] at hV
  unfold dv8
  simp only [hC]
  clear hn hl hgn hgl h0 h1 hw hwl hE hC h h2 hv hsz hi
  unfold kv kOf at HO
  dsimp only at HO
  unfold kOf at HE
  unfold kOf
  generalize hkr : ((R.sp, R.nm) : K) = kr at *
  generalize inter S = iS at *
  obtain ⟨ic, hic⟩ : ∃ ic, ic = isC gs R := ⟨_, rfl⟩
  rw [← hic] at HC HE ⊢
  clear hic
  obtain ⟨lb, hlb⟩ : ∃ lb, lb = leftB S := ⟨_, rfl⟩
  rw [← hlb] at HW HE hqI ⊢
  clear hlb
  have HKc := hid (And.intro kT (And.intro kE kZ))
  have a0 := cell_at (j := 0) kT rfl
  have a1 := cell_at (j := 1) kT rfl
  have a2 := cell_at (j := 2) kT rfl
  have a3 := cell_at (j := 3) kT rfl
  have af := froz_at kT
  have x0 := cell_at (j := 0) kE rfl
  have x1 := cell_at (j := 1) kE rfl
  have x2 := cell_at (j := 2) kE rfl
  have x3 := cell_at (j := 3) kE rfl
  have x4 := cell_at (j := 4) kE rfl
  have x5 := cell_at (j := 5) kE rfl
  have x6 := cell_at (j := 6) kE rfl
  have x7 := cell_at (j := 7) kE rfl
  have xf := froz_at kE
  have z0 := cell_at (j := 0) kZ rfl
  have z1 := cell_at (j := 1) kZ rfl
  have z2 := cell_at (j := 2) kZ rfl
  have z3 := cell_at (j := 3) kZ rfl
  have zf := froz_at kZ
  clear kT kE kZ
  go_enter Tryz.func47, Tryz.ntmps47
  go_upto_region 1 with fail
  rw [← hV]
  clear hV
  cases lb with
  | false =>
    go_upto_region 2 with (go_at_call 69; refine (HI.out _ HTc.out).mono ?_; rintro e w2 ⟨rfl, t2⟩; obtain ⟨kT, kE, kZ⟩ := HKc.out; replace kT := t2.keep kT (by first | (simp; done) | (simp; omega)); replace kE := t2.keep kE (by first | (simp; done) | (simp; omega)); replace kZ := t2.keep kZ (by first | (simp; done) | (simp; omega)); clear HKc a0 a1 a2 a3 af x0 x1 x2 x3 x4 x5 x6 x7 xf z0 z1 z2 z3 zf; have HKc := hid (And.intro kT (And.intro kE kZ)); have a0 := cell_at (j := 0) kT rfl; have a1 := cell_at (j := 1) kT rfl; have a2 := cell_at (j := 2) kT rfl; have a3 := cell_at (j := 3) kT rfl; have af := froz_at kT; have x0 := cell_at (j := 0) kE rfl; have x1 := cell_at (j := 1) kE rfl; have x2 := cell_at (j := 2) kE rfl; have x3 := cell_at (j := 3) kE rfl; have x4 := cell_at (j := 4) kE rfl; have x5 := cell_at (j := 5) kE rfl; have x6 := cell_at (j := 6) kE rfl; have x7 := cell_at (j := 7) kE rfl; have xf := froz_at kE; have z0 := cell_at (j := 0) kZ rfl; have z1 := cell_at (j := 1) kZ rfl; have z2 := cell_at (j := 2) kZ rfl; have z3 := cell_at (j := 3) kZ rfl; have zf := froz_at kZ; clear kT kE kZ; replace HTc := hid (HTc.out.trans' t2); clear t2)
    clear hqI HI
    go_upto_region 5 with fail
    clear HC
    go_upto_region 6 with (go_at_call 41; refine (HW.out _ _ rfl HTc.out).mono ?_; rintro e w5 ⟨a5, c5, rfl, o5, t5⟩; replace o5 := own_base (B' := w.heap.size + 3) o5 (by have := block_lt HKc.out.2.2; omega); obtain ⟨kT, kE, kZ⟩ := HKc.out; replace kT := t5.keep kT (by first | (simp; done) | (simp; omega)); replace kE := t5.keep kE (by first | (simp; done) | (simp; omega)); replace kZ := t5.keep kZ (by first | (simp; done) | (simp; omega)); clear HKc a0 a1 a2 a3 af x0 x1 x2 x3 x4 x5 x6 x7 xf z0 z1 z2 z3 zf; have HKc := hid (And.intro kT (And.intro kE kZ)); have a0 := cell_at (j := 0) kT rfl; have a1 := cell_at (j := 1) kT rfl; have a2 := cell_at (j := 2) kT rfl; have a3 := cell_at (j := 3) kT rfl; have af := froz_at kT; have x0 := cell_at (j := 0) kE rfl; have x1 := cell_at (j := 1) kE rfl; have x2 := cell_at (j := 2) kE rfl; have x3 := cell_at (j := 3) kE rfl; have x4 := cell_at (j := 4) kE rfl; have x5 := cell_at (j := 5) kE rfl; have x6 := cell_at (j := 6) kE rfl; have x7 := cell_at (j := 7) kE rfl; have xf := froz_at kE; have z0 := cell_at (j := 0) kZ rfl; have z1 := cell_at (j := 1) kZ rfl; have z2 := cell_at (j := 2) kZ rfl; have z3 := cell_at (j := 3) kZ rfl; have zf := froz_at kZ; clear kT kE kZ; replace HTc := hid (HTc.out.trans' t5); have O5 := hid o5; clear o5; clear t5)
    clear HW
    obtain ⟨kT, kE, kZ⟩ := HKc.out
    obtain ⟨W6, hW6⟩ : ∃ W, W = ((((w5.setCell ⟨w.heap.size, 0, none⟩ (.int .i64 fl)).setCell ⟨w.heap.size, 1, none⟩ (.int .i64 bg)).setCell ⟨w.heap.size, 2, none⟩ (.slice a5 n c5)).setCell ⟨w.heap.size, 3, none⟩ (.slice ga gn gc)) := ⟨_, rfl⟩
    obtain ⟨kq, tq⟩ := finZ kT (.int .i64 fl) (.int .i64 bg) (.slice a5 n c5) (.slice ga gn gc)
    rw [← hW6] at kq tq ⊢
    clear hW6
    replace kT := kq
    replace kE := tq.keep kE (by first | (simp; done) | (simp; omega))
    replace kZ := tq.keep kZ (by first | (simp; done) | (simp; omega))
    clear kq
    clear HKc a0 a1 a2 a3 af x0 x1 x2 x3 x4 x5 x6 x7 xf z0 z1 z2 z3 zf
    have HKc := hid (And.intro kT (And.intro kE kZ))
    have a0 := cell_at (j := 0) kT rfl
    have a1 := cell_at (j := 1) kT rfl
    have a2 := cell_at (j := 2) kT rfl
    have a3 := cell_at (j := 3) kT rfl
    have af := froz_at kT
    have x0 := cell_at (j := 0) kE rfl
    have x1 := cell_at (j := 1) kE rfl
    have x2 := cell_at (j := 2) kE rfl
    have x3 := cell_at (j := 3) kE rfl
    have x4 := cell_at (j := 4) kE rfl
    have x5 := cell_at (j := 5) kE rfl
    have x6 := cell_at (j := 6) kE rfl
    have x7 := cell_at (j := 7) kE rfl
    have xf := froz_at kE
    have z0 := cell_at (j := 0) kZ rfl
    have z1 := cell_at (j := 1) kZ rfl
    have z2 := cell_at (j := 2) kZ rfl
    have z3 := cell_at (j := 3) kZ rfl
    have zf := froz_at kZ
    clear kT kE kZ
    replace HTc := hid (HTc.out.trans tq (fun b hb => Or.inr (by simp at hb; omega)))
    replace O5 := hid (own_touch O5.out tq (fun b hb e => by have := (O5.out.lt b hb).1; simp at e; omega))
    clear tq
    clear HO
    go_wp2
    obtain ⟨kT, kE, kZ⟩ := HKc.out
    obtain ⟨q4, tF⟩ := finZ kZ (.int .i64 fl) (.int .i64 bg) (.slice a5 n c5) (.slice ga gn gc)
    have q0 := cell_at (j := 0) q4 rfl
    have q1 := cell_at (j := 1) q4 rfl
    have q2 := cell_at (j := 2) q4 rfl
    have q3 := cell_at (j := 3) q4 rfl
    exact bodyPost_ret (v := .tuple #[.agg #[.int .i64 fl, .int .i64 bg, .slice a5 n c5, .slice ga gn gc], .bool false, .bool false]) (by simp [results, Tryz.results47, go_sem, q0, q1, q2, q3]) rfl ⟨_, _, _, _, _, rfl, HE.out _ _ _ _ _ _ O5.out (Or.inl ⟨rfl, rfl, rfl, rfl⟩) HTc.out HTc.out _ tF⟩
  | true =>
    cases ic with
    | false =>
      go_upto_region 2 with (go_at_call 69; refine (HI.out _ HTc.out).mono ?_; rintro e w2 ⟨rfl, t2⟩; obtain ⟨kT, kE, kZ⟩ := HKc.out; replace kT := t2.keep kT (by first | (simp; done) | (simp; omega)); replace kE := t2.keep kE (by first | (simp; done) | (simp; omega)); replace kZ := t2.keep kZ (by first | (simp; done) | (simp; omega)); clear HKc a0 a1 a2 a3 af x0 x1 x2 x3 x4 x5 x6 x7 xf z0 z1 z2 z3 zf; have HKc := hid (And.intro kT (And.intro kE kZ)); have a0 := cell_at (j := 0) kT rfl; have a1 := cell_at (j := 1) kT rfl; have a2 := cell_at (j := 2) kT rfl; have a3 := cell_at (j := 3) kT rfl; have af := froz_at kT; have x0 := cell_at (j := 0) kE rfl; have x1 := cell_at (j := 1) kE rfl; have x2 := cell_at (j := 2) kE rfl; have x3 := cell_at (j := 3) kE rfl; have x4 := cell_at (j := 4) kE rfl; have x5 := cell_at (j := 5) kE rfl; have x6 := cell_at (j := 6) kE rfl; have x7 := cell_at (j := 7) kE rfl; have xf := froz_at kE; have z0 := cell_at (j := 0) kZ rfl; have z1 := cell_at (j := 1) kZ rfl; have z2 := cell_at (j := 2) kZ rfl; have z3 := cell_at (j := 3) kZ rfl; have zf := froz_at kZ; clear kT kE kZ; replace HTc := hid (HTc.out.trans' t2); clear t2)
      clear hqI HI
      go_upto_region 5 with (go_at_call 29; refine (HC.out _ HTc.out).mono ?_; rintro e w3 ⟨rfl, t3⟩; obtain ⟨kT, kE, kZ⟩ := HKc.out; replace kT := t3.keep kT (by first | (simp; done) | (simp; omega)); replace kE := t3.keep kE (by first | (simp; done) | (simp; omega)); replace kZ := t3.keep kZ (by first | (simp; done) | (simp; omega)); clear HKc a0 a1 a2 a3 af x0 x1 x2 x3 x4 x5 x6 x7 xf z0 z1 z2 z3 zf; have HKc := hid (And.intro kT (And.intro kE kZ)); have a0 := cell_at (j := 0) kT rfl; have a1 := cell_at (j := 1) kT rfl; have a2 := cell_at (j := 2) kT rfl; have a3 := cell_at (j := 3) kT rfl; have af := froz_at kT; have x0 := cell_at (j := 0) kE rfl; have x1 := cell_at (j := 1) kE rfl; have x2 := cell_at (j := 2) kE rfl; have x3 := cell_at (j := 3) kE rfl; have x4 := cell_at (j := 4) kE rfl; have x5 := cell_at (j := 5) kE rfl; have x6 := cell_at (j := 6) kE rfl; have x7 := cell_at (j := 7) kE rfl; have xf := froz_at kE; have z0 := cell_at (j := 0) kZ rfl; have z1 := cell_at (j := 1) kZ rfl; have z2 := cell_at (j := 2) kZ rfl; have z3 := cell_at (j := 3) kZ rfl; have zf := froz_at kZ; clear kT kE kZ; replace HTc := hid (HTc.out.trans' t3); clear t3)
      obtain ⟨kT, kE, kZ⟩ := HKc.out
      obtain ⟨W4, hW4⟩ : ∃ W, W = (w3.setCell ⟨w.heap.size + 1, 6, none⟩ (.bool true)) := ⟨_, rfl⟩
      obtain ⟨kq, tq⟩ := set1 kE 6 (.bool true)
      rw [← hW4] at kq tq ⊢
      clear hW4
      replace kT := tq.keep kT (by first | (simp; done) | (simp; omega))
      replace kE := kq
      replace kZ := tq.keep kZ (by first | (simp; done) | (simp; omega))
      clear kq
      clear HKc a0 a1 a2 a3 af x0 x1 x2 x3 x4 x5 x6 x7 xf z0 z1 z2 z3 zf
      have HKc := hid (And.intro kT (And.intro kE kZ))
      have a0 := cell_at (j := 0) kT rfl
      have a1 := cell_at (j := 1) kT rfl
      have a2 := cell_at (j := 2) kT rfl
      have a3 := cell_at (j := 3) kT rfl
      have af := froz_at kT
      have x0 := cell_at (j := 0) kE rfl
      have x1 := cell_at (j := 1) kE rfl
      have x2 := cell_at (j := 2) kE rfl
      have x3 := cell_at (j := 3) kE rfl
      have x4 := cell_at (j := 4) kE rfl
      have x5 := cell_at (j := 5) kE rfl
      have x6 := cell_at (j := 6) kE rfl
      have x7 := cell_at (j := 7) kE rfl
      have xf := froz_at kE
      have z0 := cell_at (j := 0) kZ rfl
      have z1 := cell_at (j := 1) kZ rfl
      have z2 := cell_at (j := 2) kZ rfl
      have z3 := cell_at (j := 3) kZ rfl
      have zf := froz_at kZ
      clear kT kE kZ
      replace HTc := hid (HTc.out.trans tq (fun b hb => Or.inr (by simp at hb; omega)))
      clear tq
      clear HC
      go_upto_region 6 with (go_at_call 41; refine (HW.out _ _ rfl HTc.out).mono ?_; rintro e w5 ⟨a5, c5, rfl, o5, t5⟩; replace o5 := own_base (B' := w.heap.size + 3) o5 (by have := block_lt HKc.out.2.2; omega); obtain ⟨kT, kE, kZ⟩ := HKc.out; replace kT := t5.keep kT (by first | (simp; done) | (simp; omega)); replace kE := t5.keep kE (by first | (simp; done) | (simp; omega)); replace kZ := t5.keep kZ (by first | (simp; done) | (simp; omega)); clear HKc a0 a1 a2 a3 af x0 x1 x2 x3 x4 x5 x6 x7 xf z0 z1 z2 z3 zf; have HKc := hid (And.intro kT (And.intro kE kZ)); have a0 := cell_at (j := 0) kT rfl; have a1 := cell_at (j := 1) kT rfl; have a2 := cell_at (j := 2) kT rfl; have a3 := cell_at (j := 3) kT rfl; have af := froz_at kT; have x0 := cell_at (j := 0) kE rfl; have x1 := cell_at (j := 1) kE rfl; have x2 := cell_at (j := 2) kE rfl; have x3 := cell_at (j := 3) kE rfl; have x4 := cell_at (j := 4) kE rfl; have x5 := cell_at (j := 5) kE rfl; have x6 := cell_at (j := 6) kE rfl; have x7 := cell_at (j := 7) kE rfl; have xf := froz_at kE; have z0 := cell_at (j := 0) kZ rfl; have z1 := cell_at (j := 1) kZ rfl; have z2 := cell_at (j := 2) kZ rfl; have z3 := cell_at (j := 3) kZ rfl; have zf := froz_at kZ; clear kT kE kZ; replace HTc := hid (HTc.out.trans' t5); have O5 := hid o5; clear o5; clear t5)
      clear HW
      obtain ⟨kT, kE, kZ⟩ := HKc.out
      obtain ⟨W6, hW6⟩ : ∃ W, W = ((((w5.setCell ⟨w.heap.size, 0, none⟩ (.int .i64 fl)).setCell ⟨w.heap.size, 1, none⟩ (.int .i64 bg)).setCell ⟨w.heap.size, 2, none⟩ (.slice a5 n c5)).setCell ⟨w.heap.size, 3, none⟩ (.slice ga gn gc)) := ⟨_, rfl⟩
      obtain ⟨kq, tq⟩ := finZ kT (.int .i64 fl) (.int .i64 bg) (.slice a5 n c5) (.slice ga gn gc)
      rw [← hW6] at kq tq ⊢
      clear hW6
      replace kT := kq
      replace kE := tq.keep kE (by first | (simp; done) | (simp; omega))
      replace kZ := tq.keep kZ (by first | (simp; done) | (simp; omega))
      clear kq
      clear HKc a0 a1 a2 a3 af x0 x1 x2 x3 x4 x5 x6 x7 xf z0 z1 z2 z3 zf
      have HKc := hid (And.intro kT (And.intro kE kZ))
      have a0 := cell_at (j := 0) kT rfl
      have a1 := cell_at (j := 1) kT rfl
      have a2 := cell_at (j := 2) kT rfl
      have a3 := cell_at (j := 3) kT rfl
      have af := froz_at kT
      have x0 := cell_at (j := 0) kE rfl
      have x1 := cell_at (j := 1) kE rfl
      have x2 := cell_at (j := 2) kE rfl
      have x3 := cell_at (j := 3) kE rfl
      have x4 := cell_at (j := 4) kE rfl
      have x5 := cell_at (j := 5) kE rfl
      have x6 := cell_at (j := 6) kE rfl
      have x7 := cell_at (j := 7) kE rfl
      have xf := froz_at kE
      have z0 := cell_at (j := 0) kZ rfl
      have z1 := cell_at (j := 1) kZ rfl
      have z2 := cell_at (j := 2) kZ rfl
      have z3 := cell_at (j := 3) kZ rfl
      have zf := froz_at kZ
      clear kT kE kZ
      replace HTc := hid (HTc.out.trans tq (fun b hb => Or.inr (by simp at hb; omega)))
      replace O5 := hid (own_touch O5.out tq (fun b hb e => by have := (O5.out.lt b hb).1; simp at e; omega))
      clear tq
      clear HO
      go_wp2
      obtain ⟨kT, kE, kZ⟩ := HKc.out
      obtain ⟨q4, tF⟩ := finZ kZ (.int .i64 fl) (.int .i64 bg) (.slice a5 n c5) (.slice ga gn gc)
      have q0 := cell_at (j := 0) q4 rfl
      have q1 := cell_at (j := 1) q4 rfl
      have q2 := cell_at (j := 2) q4 rfl
      have q3 := cell_at (j := 3) q4 rfl
      exact bodyPost_ret (v := .tuple #[.agg #[.int .i64 fl, .int .i64 bg, .slice a5 n c5, .slice ga gn gc], .bool true, .bool false]) (by simp [results, Tryz.results47, go_sem, q0, q1, q2, q3]) rfl ⟨_, _, _, _, _, rfl, HE.out _ _ _ _ _ _ O5.out (Or.inl ⟨rfl, rfl, rfl, rfl⟩) HTc.out HTc.out _ tF⟩
    | true =>
      go_upto_region 2 with (go_at_call 69; refine (HI.out _ HTc.out).mono ?_; rintro e w2 ⟨rfl, t2⟩; obtain ⟨kT, kE, kZ⟩ := HKc.out; replace kT := t2.keep kT (by first | (simp; done) | (simp; omega)); replace kE := t2.keep kE (by first | (simp; done) | (simp; omega)); replace kZ := t2.keep kZ (by first | (simp; done) | (simp; omega)); clear HKc a0 a1 a2 a3 af x0 x1 x2 x3 x4 x5 x6 x7 xf z0 z1 z2 z3 zf; have HKc := hid (And.intro kT (And.intro kE kZ)); have a0 := cell_at (j := 0) kT rfl; have a1 := cell_at (j := 1) kT rfl; have a2 := cell_at (j := 2) kT rfl; have a3 := cell_at (j := 3) kT rfl; have af := froz_at kT; have x0 := cell_at (j := 0) kE rfl; have x1 := cell_at (j := 1) kE rfl; have x2 := cell_at (j := 2) kE rfl; have x3 := cell_at (j := 3) kE rfl; have x4 := cell_at (j := 4) kE rfl; have x5 := cell_at (j := 5) kE rfl; have x6 := cell_at (j := 6) kE rfl; have x7 := cell_at (j := 7) kE rfl; have xf := froz_at kE; have z0 := cell_at (j := 0) kZ rfl; have z1 := cell_at (j := 1) kZ rfl; have z2 := cell_at (j := 2) kZ rfl; have z3 := cell_at (j := 3) kZ rfl; have zf := froz_at kZ; clear kT kE kZ; replace HTc := hid (HTc.out.trans' t2); clear t2)
      clear hqI HI
      go_upto_region 5 with (go_at_call 29; refine (HC.out _ HTc.out).mono ?_; rintro e w3 ⟨rfl, t3⟩; obtain ⟨kT, kE, kZ⟩ := HKc.out; replace kT := t3.keep kT (by first | (simp; done) | (simp; omega)); replace kE := t3.keep kE (by first | (simp; done) | (simp; omega)); replace kZ := t3.keep kZ (by first | (simp; done) | (simp; omega)); clear HKc a0 a1 a2 a3 af x0 x1 x2 x3 x4 x5 x6 x7 xf z0 z1 z2 z3 zf; have HKc := hid (And.intro kT (And.intro kE kZ)); have a0 := cell_at (j := 0) kT rfl; have a1 := cell_at (j := 1) kT rfl; have a2 := cell_at (j := 2) kT rfl; have a3 := cell_at (j := 3) kT rfl; have af := froz_at kT; have x0 := cell_at (j := 0) kE rfl; have x1 := cell_at (j := 1) kE rfl; have x2 := cell_at (j := 2) kE rfl; have x3 := cell_at (j := 3) kE rfl; have x4 := cell_at (j := 4) kE rfl; have x5 := cell_at (j := 5) kE rfl; have x6 := cell_at (j := 6) kE rfl; have x7 := cell_at (j := 7) kE rfl; have xf := froz_at kE; have z0 := cell_at (j := 0) kZ rfl; have z1 := cell_at (j := 1) kZ rfl; have z2 := cell_at (j := 2) kZ rfl; have z3 := cell_at (j := 3) kZ rfl; have zf := froz_at kZ; clear kT kE kZ; replace HTc := hid (HTc.out.trans' t3); clear t3)
      obtain ⟨kT, kE, kZ⟩ := HKc.out
      obtain ⟨W4, hW4⟩ : ∃ W, W = (w3.setCell ⟨w.heap.size + 1, 6, none⟩ (.bool true)) := ⟨_, rfl⟩
      obtain ⟨kq, tq⟩ := set1 kE 6 (.bool true)
      rw [← hW4] at kq tq ⊢
      clear hW4
      replace kT := tq.keep kT (by first | (simp; done) | (simp; omega))
      replace kE := kq
      replace kZ := tq.keep kZ (by first | (simp; done) | (simp; omega))
      clear kq
      clear HKc a0 a1 a2 a3 af x0 x1 x2 x3 x4 x5 x6 x7 xf z0 z1 z2 z3 zf
      have HKc := hid (And.intro kT (And.intro kE kZ))
      have a0 := cell_at (j := 0) kT rfl
      have a1 := cell_at (j := 1) kT rfl
      have a2 := cell_at (j := 2) kT rfl
      have a3 := cell_at (j := 3) kT rfl
      have af := froz_at kT
      have x0 := cell_at (j := 0) kE rfl
      have x1 := cell_at (j := 1) kE rfl
      have x2 := cell_at (j := 2) kE rfl
      have x3 := cell_at (j := 3) kE rfl
      have x4 := cell_at (j := 4) kE rfl
      have x5 := cell_at (j := 5) kE rfl
      have x6 := cell_at (j := 6) kE rfl
      have x7 := cell_at (j := 7) kE rfl
      have xf := froz_at kE
      have z0 := cell_at (j := 0) kZ rfl
      have z1 := cell_at (j := 1) kZ rfl
      have z2 := cell_at (j := 2) kZ rfl
      have z3 := cell_at (j := 3) kZ rfl
      have zf := froz_at kZ
      clear kT kE kZ
      replace HTc := hid (HTc.out.trans tq (fun b hb => Or.inr (by simp at hb; omega)))
      clear tq
      clear HC
      go_upto_region 6 with (go_at_call 41; refine (HW.out _ _ rfl HTc.out).mono ?_; rintro e w5 ⟨a5, c5, rfl, o5, t5⟩; replace o5 := own_base (B' := w.heap.size + 3) o5 (by have := block_lt HKc.out.2.2; omega); obtain ⟨kT, kE, kZ⟩ := HKc.out; replace kT := t5.keep kT (by first | (simp; done) | (simp; omega)); replace kE := t5.keep kE (by first | (simp; done) | (simp; omega)); replace kZ := t5.keep kZ (by first | (simp; done) | (simp; omega)); clear HKc a0 a1 a2 a3 af x0 x1 x2 x3 x4 x5 x6 x7 xf z0 z1 z2 z3 zf; have HKc := hid (And.intro kT (And.intro kE kZ)); have a0 := cell_at (j := 0) kT rfl; have a1 := cell_at (j := 1) kT rfl; have a2 := cell_at (j := 2) kT rfl; have a3 := cell_at (j := 3) kT rfl; have af := froz_at kT; have x0 := cell_at (j := 0) kE rfl; have x1 := cell_at (j := 1) kE rfl; have x2 := cell_at (j := 2) kE rfl; have x3 := cell_at (j := 3) kE rfl; have x4 := cell_at (j := 4) kE rfl; have x5 := cell_at (j := 5) kE rfl; have x6 := cell_at (j := 6) kE rfl; have x7 := cell_at (j := 7) kE rfl; have xf := froz_at kE; have z0 := cell_at (j := 0) kZ rfl; have z1 := cell_at (j := 1) kZ rfl; have z2 := cell_at (j := 2) kZ rfl; have z3 := cell_at (j := 3) kZ rfl; have zf := froz_at kZ; clear kT kE kZ; replace HTc := hid (HTc.out.trans' t5); have O5 := hid o5; clear o5; clear t5)
      clear HW
      obtain ⟨kT, kE, kZ⟩ := HKc.out
      obtain ⟨W6, hW6⟩ : ∃ W, W = ((((w5.setCell ⟨w.heap.size, 0, none⟩ (.int .i64 fl)).setCell ⟨w.heap.size, 1, none⟩ (.int .i64 bg)).setCell ⟨w.heap.size, 2, none⟩ (.slice a5 n c5)).setCell ⟨w.heap.size, 3, none⟩ (.slice ga gn gc)) := ⟨_, rfl⟩
      obtain ⟨kq, tq⟩ := finZ kT (.int .i64 fl) (.int .i64 bg) (.slice a5 n c5) (.slice ga gn gc)
      rw [← hW6] at kq tq ⊢
      clear hW6
      replace kT := kq
      replace kE := tq.keep kE (by first | (simp; done) | (simp; omega))
      replace kZ := tq.keep kZ (by first | (simp; done) | (simp; omega))
      clear kq
      clear HKc a0 a1 a2 a3 af x0 x1 x2 x3 x4 x5 x6 x7 xf z0 z1 z2 z3 zf
      have HKc := hid (And.intro kT (And.intro kE kZ))
      have a0 := cell_at (j := 0) kT rfl
      have a1 := cell_at (j := 1) kT rfl
      have a2 := cell_at (j := 2) kT rfl
      have a3 := cell_at (j := 3) kT rfl
      have af := froz_at kT
      have x0 := cell_at (j := 0) kE rfl
      have x1 := cell_at (j := 1) kE rfl
      have x2 := cell_at (j := 2) kE rfl
      have x3 := cell_at (j := 3) kE rfl
      have x4 := cell_at (j := 4) kE rfl
      have x5 := cell_at (j := 5) kE rfl
      have x6 := cell_at (j := 6) kE rfl
      have x7 := cell_at (j := 7) kE rfl
      have xf := froz_at kE
      have z0 := cell_at (j := 0) kZ rfl
      have z1 := cell_at (j := 1) kZ rfl
      have z2 := cell_at (j := 2) kZ rfl
      have z3 := cell_at (j := 3) kZ rfl
      have zf := froz_at kZ
      clear kT kE kZ
      replace HTc := hid (HTc.out.trans tq (fun b hb => Or.inr (by simp at hb; omega)))
      replace O5 := hid (own_touch O5.out tq (fun b hb e => by have := (O5.out.lt b hb).1; simp at e; omega))
      clear tq
      go_upto_region 8 with (go_at_call 51; refine (HO.out _ _ _ HTc.out).mono ?_; rintro e w7 ⟨b6, c6, rfl, o6, t6⟩; replace o6 := own_base (B' := w.heap.size + 3) o6 (by have := block_lt HKc.out.2.2; omega); replace O5 := hid (own_touch O5.out t6 (fun _ _ e => by cases e)); obtain ⟨kT, kE, kZ⟩ := HKc.out; replace kT := t6.keep kT (by first | (simp; done) | (simp; omega)); replace kE := t6.keep kE (by first | (simp; done) | (simp; omega)); replace kZ := t6.keep kZ (by first | (simp; done) | (simp; omega)); clear HKc a0 a1 a2 a3 af x0 x1 x2 x3 x4 x5 x6 x7 xf z0 z1 z2 z3 zf; have HKc := hid (And.intro kT (And.intro kE kZ)); have a0 := cell_at (j := 0) kT rfl; have a1 := cell_at (j := 1) kT rfl; have a2 := cell_at (j := 2) kT rfl; have a3 := cell_at (j := 3) kT rfl; have af := froz_at kT; have x0 := cell_at (j := 0) kE rfl; have x1 := cell_at (j := 1) kE rfl; have x2 := cell_at (j := 2) kE rfl; have x3 := cell_at (j := 3) kE rfl; have x4 := cell_at (j := 4) kE rfl; have x5 := cell_at (j := 5) kE rfl; have x6 := cell_at (j := 6) kE rfl; have x7 := cell_at (j := 7) kE rfl; have xf := froz_at kE; have z0 := cell_at (j := 0) kZ rfl; have z1 := cell_at (j := 1) kZ rfl; have z2 := cell_at (j := 2) kZ rfl; have z3 := cell_at (j := 3) kZ rfl; have zf := froz_at kZ; clear kT kE kZ; replace HTc := hid (HTc.out.trans' t6); have O6 := hid o6; clear o6; clear t6)
      generalize hm6 : (onL gs kr).length = m6 at *
      have HM6 := hid hm6
      clear hm6
      obtain ⟨kT, kE, kZ⟩ := HKc.out
      obtain ⟨W8, hW8⟩ : ∃ W, W = ((((w7.setCell ⟨w.heap.size, 0, none⟩ (.int .i64 fl)).setCell ⟨w.heap.size, 1, none⟩ (.int .i64 bg)).setCell ⟨w.heap.size, 2, none⟩ (.slice a5 n c5)).setCell ⟨w.heap.size, 3, none⟩ (.slice b6 m6 c6)) := ⟨_, rfl⟩
      obtain ⟨kq, tq⟩ := finZ kT (.int .i64 fl) (.int .i64 bg) (.slice a5 n c5) (.slice b6 m6 c6)
      rw [← hW8] at kq tq ⊢
      clear hW8
      replace kT := kq
      replace kE := tq.keep kE (by first | (simp; done) | (simp; omega))
      replace kZ := tq.keep kZ (by first | (simp; done) | (simp; omega))
      clear kq
      clear HKc a0 a1 a2 a3 af x0 x1 x2 x3 x4 x5 x6 x7 xf z0 z1 z2 z3 zf
      have HKc := hid (And.intro kT (And.intro kE kZ))
      have a0 := cell_at (j := 0) kT rfl
      have a1 := cell_at (j := 1) kT rfl
      have a2 := cell_at (j := 2) kT rfl
      have a3 := cell_at (j := 3) kT rfl
      have af := froz_at kT
      have x0 := cell_at (j := 0) kE rfl
      have x1 := cell_at (j := 1) kE rfl
      have x2 := cell_at (j := 2) kE rfl
      have x3 := cell_at (j := 3) kE rfl
      have x4 := cell_at (j := 4) kE rfl
      have x5 := cell_at (j := 5) kE rfl
      have x6 := cell_at (j := 6) kE rfl
      have x7 := cell_at (j := 7) kE rfl
      have xf := froz_at kE
      have z0 := cell_at (j := 0) kZ rfl
      have z1 := cell_at (j := 1) kZ rfl
      have z2 := cell_at (j := 2) kZ rfl
      have z3 := cell_at (j := 3) kZ rfl
      have zf := froz_at kZ
      clear kT kE kZ
      replace HTc := hid (HTc.out.trans tq (fun b hb => Or.inr (by simp at hb; omega)))
      replace O5 := hid (own_touch O5.out tq (fun b hb e => by have := (O5.out.lt b hb).1; simp at e; omega))
      replace O6 := hid (own_touch O6.out tq (fun b hb e => by have := (O6.out.lt b hb).1; simp at e; omega))
      clear tq
      clear HO
      go_wp2
      obtain ⟨kT, kE, kZ⟩ := HKc.out
      obtain ⟨q4, tF⟩ := finZ kZ (.int .i64 fl) (.int .i64 bg) (.slice a5 n c5) (.slice b6 m6 c6)
      have q0 := cell_at (j := 0) q4 rfl
      have q1 := cell_at (j := 1) q4 rfl
      have q2 := cell_at (j := 2) q4 rfl
      have q3 := cell_at (j := 3) q4 rfl
      exact bodyPost_ret (v := .tuple #[.agg #[.int .i64 fl, .int .i64 bg, .slice a5 n c5, .slice b6 m6 c6], .bool true, .bool true]) (by simp [results, Tryz.results47, go_sem, q0, q1, q2, q3]) rfl ⟨_, _, _, _, _, rfl, HE.out _ _ _ _ _ _ O5.out (Or.inr ⟨rfl, rfl, O6.out⟩) HTc.out HTc.out _ tF⟩
end Go.Proofs.YtpihhlllembdeaaGreat
