/- The contract of the document's Leave. -/
import Derived.Test.YtpihhlllembdeaaGreatDre
namespace Go.Proofs.YtpihhlllembdeaaGreat
open Go.RowKit Go.Maps Go.ChangeMaps
set_option linter.unusedVariables false
set_option linter.unusedSimpArgs false
theorem cut_one {l : List Int} (hn : l.Nodup) {x : Int} (hx : x ∈ l) : l.take (l.idxOf x) ++ l.drop (l.idxOf x + 1) = l.filter (fun y => decide (y ≠ x)) := by
  induction l with
  | nil => cases hx
  | cons a r ih =>
    obtain ⟨h1, h2⟩ := List.nodup_cons.1 hn
    by_cases e : a = x
    · subst e
      simp only [List.idxOf_cons_self, List.take_zero, List.nil_append, Nat.zero_add, List.drop_succ_cons, List.drop_zero]
      rw [List.filter_cons_of_neg (by simp), List.filter_eq_self.2 (fun y hy => by simp; exact fun e => h1 (e ▸ hy))]
    · rcases List.mem_cons.1 hx with e' | e'
      · exact absurd e'.symm e
      · have ei : (a :: r).idxOf x = r.idxOf x + 1 := by rw [List.idxOf_cons, show (a == x) = false from by simpa using e]; rfl
        rw [ei, List.take_succ_cons, List.drop_succ_cons, List.cons_append, ih h2 e', List.filter_cons_of_pos (by simp [e])]
/-- A slice's head and tail, behind an operation of a slice. -/
theorem Rs.head {w : World} {t n c i : Nat} {a : Option Addr} {xs : List Value} (h : Rs t 1 w (.slice a n c) n xs) (hi : i ≤ n) (hn : 0 < n) : Rs t 1 w (sliced a 0 i c 1) i (xs.take i) := by
  obtain ⟨h1, a', c', e, h2, h3, h4⟩ := h
  cases e
  obtain ⟨g, off, rfl, cs, z, h5, h6⟩ := h4 hn
  refine ⟨by simp; omega, _, _, rfl, by omega, fun e => ?_, fun hp => ⟨g, off, ?_, cs, z, h5, fun j u hu => ?_⟩⟩
  · split at e <;> simp at e
  · split <;> simp [Addr.add]
  · rw [List.getElem?_take] at hu
    split at hu
    · exact h6 j u hu
    · cases hu
theorem Rs.tail {w : World} {t n c i : Nat} {a : Option Addr} {xs : List Value} (h : Rs t 1 w (.slice a n c) n xs) (hi : i ≤ n) (hn : 0 < n) : Rs t 1 w (sliced a i n c 1) (n - i) (xs.drop i) := by
  obtain ⟨h1, a', c', e, h2, h3, h4⟩ := h
  cases e
  obtain ⟨g, off, rfl, cs, z, h5, h6⟩ := h4 hn
  refine ⟨by simp; omega, _, _, rfl, by omega, fun e => ?_, fun hp => ⟨g, off + i, ?_, cs, z, h5, fun j u hu => ?_⟩⟩
  · split at e <;> simp at e
  · rw [if_neg (by omega)]
    simp [Addr.add]
  · rw [List.getElem?_drop] at hu
    rw [Nat.add_assoc]
    exact h6 (i + j) u hu
theorem sl_h (W : World) (a : Option Addr) (n c i : Nat) (hi : i ≤ c) : (Instr.slice 75 (.slice a n c) none (some (.int .i64 (i : Int))) none).run Tryz.prog W = .ok (sliced a 0 i c 1) W := by
  rw [run_slice_h W 75 a n c (by kernel_rfl) .i64 (i : Int) (by omega) (by omega), show ((i : Int)).toNat = i by omega]
  go_simp
theorem sl_l (W : World) (a : Option Addr) (n c i : Nat) (hi : i ≤ n) : (Instr.slice 75 (.slice a n c) (some (.int .i64 (i : Int))) none none).run Tryz.prog W = .ok (sliced a i n c 1) W := by
  rw [run_slice_l W 75 a n c (by kernel_rfl) .i64 (i : Int) (by omega) (by omega), show ((i : Int)).toNat = i by omega]
  go_simp
def leaveP (w : World) (lv gv : Value) (ds : List De) (gs : List (K × Int)) (T : Tb) (n x : Int) (e : Ending) (w' : World) : Prop := ∃ lv' gv' gs', e = .returned (.tuple #[tv (tLeave T n x) lv' gv', .bool (tLeaveC T n x), .bool (tLeaveA T n x), .int .i64 (tLeaveE T n x)]) ∧ DtE w w' lv gv ds lv' gv' gs' (tLeave T n x) ∧ gs'.length ≤ gs.length + 1
theorem ints_one {l : List Int} : ∀ y ∈ ints l, y.oneCell' = true := fun y hy => by
  obtain ⟨z, _, rfl⟩ := List.mem_map.1 hy
  rfl
theorem ints_take (l : List Int) (i : Nat) : (ints l).take i = ints (l.take i) := by unfold ints; rw [List.map_take]
theorem ints_drop (l : List Int) (i : Nat) : (ints l).drop i = ints (l.drop i) := by unfold ints; rw [List.map_drop]
theorem ints_app (l r : List Int) : ints l ++ ints r = ints (l ++ r) := by unfold ints; rw [List.map_append]
set_option maxHeartbeats 4000000 in
set_option maxRecDepth 100000 in
theorem leave_ (w : World) (lv gv : Value) (ds : List De) (gs : List (K × Int)) (T : Tb) (M : Nat) (nn x : Int) (h : Dg w lv gv ds gs T M) :
    Calls Tryz.prog 13 #[tv T lv gv, .int .i64 nn, .int .i64 x] w fun e w' => leaveP w lv gv ds gs T nn x e w' := by
  obtain ⟨la, lc, ga, gc, rfl, rfl⟩ := h.dt.form
  obtain ⟨n, hn⟩ : ∃ n, n = ds.length := ⟨_, rfl⟩
  obtain ⟨gn, hgn⟩ : ∃ gn, gn = gs.length := ⟨_, rfl⟩
  have hnl := h.len
  have hM := h.hM
  have hgl := h.gl
  have h8 := h.dt.lr
  have h2 := h.dt.gr
  have HF : Hid (∀ w', Touch [] w w' → Calls Tryz.prog 35 #[.agg #[.int .i64 T.fl, .int .i64 T.bg, .slice la n lc, .slice ga gn gc], .int .i64 nn] w' fun e w2 => e = .returned (.int .i64 (posN (desOf ds) nn)) ∧ Touch [] w' w2) := fun w' X => find_ w' T.fl T.bg nn la ga n lc gn gc ds hn (by omega) (own_touch (by rw [hn]; exact h8) X (fun _ _ e => by cases e)) h.vs
  obtain ⟨V, hV⟩ : ∃ V, V = (w.alloc (.cells #[.int .i64 T.fl, .int .i64 T.bg, .slice la n lc, .slice ga gn gc] 31)).alloc (.cells #[.int .i64 0, .int .i64 0, .slice none 0 0, .slice none 0 0] 31) := ⟨_, rfl⟩
  have HTc : Hid (Touch [] w V) := by rw [hV]; exact ((Touch.refl _ _).alloc _).alloc _
  have kT : V.heap[w.heap.size]? = some (.cells #[.int .i64 T.fl, .int .i64 T.bg, .slice la n lc, .slice ga gn gc] 31 (0, 0)) := by rw [hV]; exact (Below.heap_alloc _ _ _ (by simp)).trans (heap_alloc_new w _)
  have kZ : V.heap[w.heap.size + 1]? = some (.cells #[.int .i64 0, .int .i64 0, .slice none 0 0, .slice none 0 0] 31 (0, 0)) := by
    rw [hV]
    have := heap_alloc_new (w.alloc (.cells #[.int .i64 T.fl, .int .i64 T.bg, .slice la n lc, .slice ga gn gc] 31)) (.cells #[.int .i64 0, .int .i64 0, .slice none 0 0, .slice none 0 0] 31)
    rwa [World.size_alloc] at this
  have HG : Hid (∀ w', Touch [] w w' → w'.ownsRow 0 78 8 (.slice la n lc) n (ds.flatMap row8)) := fun w' t => own_touch (by rw [hn]; exact h8) t (fun _ _ e => by cases e)
  have HDg : Hid (Dg w (.slice la n lc) (.slice ga gn gc) ds gs T M) := hid (by rw [hn, hgn]; exact h)
  have HGb : Hid (∀ b, (Value.slice ga gn gc).ownBlock = some b → b < w.heap.size) := fun b hb => (h2.lt b (by rw [← hgn]; exact hb)).2
  have HN := hid hn
  have zn : (n : Int) ≤ 4096 := by omega
  have HGn := hid hgn
  have HGl : Hid (gn ≤ 1700000000000) := hid (by omega)
  unfold tv
  rw [← hn, ← hgn]
  obtain ⟨Q, hQ⟩ : ∃ Q : Ending → World → Prop, Q = fun e w' => leaveP w (.slice la n lc) (.slice ga gn gc) ds gs T nn x e w' := ⟨_, rfl⟩
  have HQ : Hid (∀ e w', leaveP w (.slice la n lc) (.slice ga gn gc) ds gs T nn x e w' → Q e w') := hid (by rw [hQ]; exact fun e w' hh => hh)
  rw [← hQ]
  clear hQ h h8 h2 hM hgl hnl
  rcases HDg.out.run nn with ⟨e1, e2⟩ | ⟨i, d, e1, e2, e3, e4⟩
  · rw [e1] at HF
    have HE : Hid (∀ w', Touch [] w w' → Q (.returned (.tuple #[.agg #[.int .i64 T.fl, .int .i64 T.bg, .slice la n lc, .slice ga gn gc], .bool false, .bool false, .int .i64 122])) w') := fun w' X => HQ.out _ _ ⟨.slice la n lc, .slice ga gn gc, gs, by simp [tv, tLeave, tLeaveC, tLeaveA, tLeaveE, e2], by
      have := HDg.out.stay X
      simpa [tLeave, e2] using this, by omega⟩
    clear e1 e2 HDg HG HQ hn hgn
    generalize T.fl = fl at *
    generalize T.bg = bg at *
    have HKc := hid (And.intro kT kZ)
    have a0 := cell_at (j := 0) kT rfl
    have a1 := cell_at (j := 1) kT rfl
    have a2 := cell_at (j := 2) kT rfl
    have a3 := cell_at (j := 3) kT rfl
    have af := froz_at kT
    have z0 := cell_at (j := 0) kZ rfl
    have z1 := cell_at (j := 1) kZ rfl
    have z2 := cell_at (j := 2) kZ rfl
    have z3 := cell_at (j := 3) kZ rfl
    have zf := froz_at kZ
    clear kT kZ
    go_enter Tryz.func13, Tryz.ntmps13
    go_upto_region 1 with fail
    rw [← hV]
    clear hV
    go_wp2_with (go_at_call 35; refine (HF.out _ HTc.out).mono ?_; rintro e w2 ⟨rfl, t2⟩; obtain ⟨kT, kZ⟩ := HKc.out; replace kT := t2.keep kT (by first | (simp; done) | (simp; omega)); replace kZ := t2.keep kZ (by first | (simp; done) | (simp; omega)); clear HKc a0 a1 a2 a3 af z0 z1 z2 z3 zf; have HKc := hid (And.intro kT kZ); have a0 := cell_at (j := 0) kT rfl; have a1 := cell_at (j := 1) kT rfl; have a2 := cell_at (j := 2) kT rfl; have a3 := cell_at (j := 3) kT rfl; have af := froz_at kT; have z0 := cell_at (j := 0) kZ rfl; have z1 := cell_at (j := 1) kZ rfl; have z2 := cell_at (j := 2) kZ rfl; have z3 := cell_at (j := 3) kZ rfl; have zf := froz_at kZ; clear kT kZ; replace HTc := hid (HTc.out.trans' t2); clear t2)
    obtain ⟨kT, kZ⟩ := HKc.out
    obtain ⟨q4, tF⟩ := finZ kZ (.int .i64 fl) (.int .i64 bg) (.slice la n lc) (.slice ga gn gc)
    have q0 := cell_at (j := 0) q4 rfl
    have q1 := cell_at (j := 1) q4 rfl
    have q2 := cell_at (j := 2) q4 rfl
    have q3 := cell_at (j := 3) q4 rfl
    exact bodyPost_ret (v := .tuple #[.agg #[.int .i64 fl, .int .i64 bg, .slice la n lc, .slice ga gn gc], .bool false, .bool false, .int .i64 122]) (by simp [results, Tryz.results13, go_sem, q0, q1, q2, q3]) rfl (HE.out _ (HTc.out.trans tF (fun b hb => Or.inr (by simp at hb; omega))))
  · rw [e1] at HF
    have hdm := List.mem_of_getElem? e2
    have hiv := HDg.out.ti.live _ (HDg.out.mem hdm)
    have hlv := HDg.out.lv _ (HDg.out.mem hdm)
    have hwl := HDg.out.who _ (HDg.out.mem hdm)
    have hwv := HDg.out.dt.wr d hdm
    obtain ⟨va, vc, ev⟩ := own_form hwv
    obtain ⟨vn, hvn⟩ : ∃ vn, vn = d.S.who.length := ⟨_, rfl⟩
    rw [← hvn] at ev
    simp only at hlv hwl hiv
    have zi : (i : Int) < (n : Int) := by have := (List.getElem?_eq_some_iff.1 e2).1; omega
    have HD := hid e2
    have Hev := hid ev
    have hM := HDg.out.hM
    have eT : tLeave T nn x = goneT (setS T nn (leaveS d.S x)) d.R (leaveB d.S x) := by simp [tLeave, e4]
    have hww : w.ownsRow 0 3 1 (.slice va vn vc) vn (ints d.S.who) := by have := hwv; unfold Wv at this; rwa [ev, ← hvn] at this
    have HWt : Hid (∀ w', Touch [] w w' → Calls Tryz.prog 40 #[.agg #[.int .i64 d.R.run, .int .i64 d.R.gen, .int .u16 d.R.sp, .string d.R.nm, .bool d.R.rf, .bool d.S.kept, .bool d.S.canc, .slice va vn vc], .int .i64 x] w' fun e w2 => e = .returned (.int .i64 (posW d.S.who x)) ∧ Touch [] w' w2) := fun w' X => waits_ w' d.R d.S va vn vc x hvn (by omega) (own_touch hww X (fun _ _ e => by cases e))
    by_cases hx : x ∈ d.S.who
    · have hle : leaveE d.S x = 0 := by simp [leaveE, hlv, hx]
      obtain ⟨at', hat⟩ : ∃ m, m = d.S.who.idxOf x := ⟨_, rfl⟩
      have hpw : posW d.S.who x = ((at' : Nat) : Int) := by unfold posW; rw [if_pos hx, hat]
      have hal : at' < vn := by rw [hat, hvn]; exact List.idxOf_lt_length_of_mem hx
      rw [hpw] at HWt
      have hca : d.S.canc = false := by
        cases hc : d.S.canc with
        | false => rfl
        | true => have := (hiv.ca hlv hc).1; rw [this] at hx; cases hx
      have hcut : d.S.who.take at' ++ d.S.who.drop (at' + 1) = (lessS d.S x).who := by rw [hat]; exact cut_one hiv.nd hx
      have hll : at' + (vn - (at' + 1)) = (lessS d.S x).who.length := by rw [← hcut]; simp; omega
      have HL : Hid (∀ w' va' vc', Touch [] w w' → Calls Tryz.prog 47 #[.agg #[.int .i64 T.fl, .int .i64 T.bg, .slice la n lc, .slice ga gn gc], .int .i64 (i : Int), .agg #[.int .i64 d.R.run, .int .i64 d.R.gen, .int .u16 d.R.sp, .string d.R.nm, .bool d.R.rf, .bool d.S.kept, .bool d.S.canc, .slice va' (at' + (vn - (at' + 1))) vc']] w' fun e w2 => ∃ a c b m c2, e = .returned (.tuple #[.agg #[.int .i64 T.fl, .int .i64 T.bg, .slice a n c, .slice b m c2], .bool (leaveB d.S x), .bool (leaveB d.S x && isC gs d.R)]) ∧ w2.ownsRow w'.heap.size 78 8 (.slice a n c) n ((ds.set i ⟨d.R, leaveS d.S x, .slice va' (at' + (vn - (at' + 1))) vc'⟩).flatMap row8) ∧ m = (onG gs (kOf d.R) (leaveB d.S x && isC gs d.R)).length ∧ w2.ownsRow 0 122 3 (.slice b m c2) m ((onG gs (kOf d.R) (leaveB d.S x && isC gs d.R)).flatMap row3) ∧ (∀ q, (Value.slice b m c2).ownBlock = some q → (Value.slice ga gn gc).ownBlock = some q ∨ w'.heap.size ≤ q) ∧ Touch [] w' w2) := fun w' va' vc' X => by
        have g1 := HDg.out.ti.gn (kOf d.R)
        have g2 := HDg.out.dt.go (kOf d.R)
        have hgl := HDg.out.gl
        have hnl := HDg.out.len
        have := left_ w' T.fl T.bg la ga va' n lc gn gc i (at' + (vn - (at' + 1))) vc' ds gs d.R (lessS d.S x) hn (by omega) hgn (by omega) (by omega) (by omega) (by omega) hll (by omega) hlv hca (HG.out _ X) (own_touch (by have := HDg.out.dt.gr; rwa [← hgn] at this) X (fun _ _ e => by cases e)) HDg.out.vs
        have r1 : leftB (lessS d.S x) = leaveB d.S x := by simp [leaveB, hle]
        have r2 : leftS (lessS d.S x) = leaveS d.S x := by simp [leaveS, hle]
        rw [r1, r2] at this
        exact this
      have HE : Hid (∀ w' (a b va' : Option Addr) (c c2 m vc' : Nat), w'.ownsRow w.heap.size 78 8 (.slice a n c) n ((ds.set i ⟨d.R, leaveS d.S x, .slice va' (at' + (vn - (at' + 1))) vc'⟩).flatMap row8) → w'.ownsRow w.heap.size 3 1 (.slice va' (at' + (vn - (at' + 1))) vc') (at' + (vn - (at' + 1))) (ints d.S.who |>.take at' |>.append ((ints d.S.who).drop (at' + 1))) → m = (onG gs (kOf d.R) (leaveB d.S x && isC gs d.R)).length → w'.ownsRow 0 122 3 (.slice b m c2) m ((onG gs (kOf d.R) (leaveB d.S x && isC gs d.R)).flatMap row3) → (∀ q, (Value.slice b m c2).ownBlock = some q → (Value.slice ga gn gc).ownBlock = some q ∨ w.heap.size ≤ q) → Touch [] w w' → Q (.returned (.tuple #[.agg #[.int .i64 T.fl, .int .i64 T.bg, .slice a n c, .slice b m c2], .bool (leaveB d.S x), .bool (leaveB d.S x && isC gs d.R), .int .i64 0])) w') := fun w' a b va' c c2 m vc' q1 q0 q2 q3 q4 X => HQ.out _ _ ⟨.slice a n c, .slice b m c2, onG gs (kOf d.R) (leaveB d.S x && isC gs d.R), by
          rw [HDg.out.isC, eT]
          unfold tv
          rw [(goneT_fl _ _ _).1, (goneT_fl _ _ _).2.1]
          simp only [tLeaveC, tLeaveA, tLeaveE, e4, goneB, hle]
          rfl, by
          have r : (leaveS d.S x).who = (lessS d.S x).who := by simp [leaveS, hle, leftS]
          refine HDg.out.set X e2 (S := leaveS d.S x) (v := .slice va' (at' + (vn - (at' + 1))) vc') (by rw [← hn]; exact q1) ?_ (fun q hq => Or.inr (q0.lt q hq).1) (by rw [← q2]; exact q3) ?_ ?_ (fun j => ?_)
          · unfold Wv
            simp only
            rw [r, ← hll, ← hcut, ← ints_app, ← ints_take, ← ints_drop]
            exact own_base q0 (Nat.zero_le _)
          · exact q4
          · rw [eT, (goneT_fl _ _ _).2.2, e3]
            rfl
          · rw [HDg.out.onG (kOf d.R) _ (setS T nn (leaveS d.S x)) rfl j, HDg.out.isC, eT]
            rfl, by have := onG_len gs (kOf d.R) (leaveB d.S x && isC gs d.R); omega⟩
      have HRs : Hid (∀ w', Touch [] w w' → Rs 3 1 w' (.slice va vn vc) vn (ints d.S.who)) := fun w' X => Rs.of_own (own_touch hww X (fun _ _ e => by cases e))
      have HLn : Hid (vn ≤ 1700000000000 ∧ at' < vn) := hid ⟨by omega, hal⟩
      have hvc : vn ≤ vc := by
        obtain ⟨a, c, e, q⟩ := (HRs.out w (Touch.refl _ _)).form
        cases e
        exact q
      have za : (at' : Int) < (vn : Int) := by omega
      have zv : (vn : Int) ≤ 1700000000000 := by omega
      have hs1 := fun W => sl_h W va vn vc at' (by omega)
      have hs2 := fun W => sl_l W va vn vc (at' + 1) (by omega)
      rw [show ((at' + 1 : Nat) : Int) = (at' : Int) + 1 by omega] at hs2
      have HR1 : Hid (∀ w', Touch [] w w' → Rs 3 1 w' (sliced va 0 at' vc 1) at' ((ints d.S.who).take at')) := fun w' X => (HRs.out w' X).head (by omega) (by omega)
      have HR2 : Hid (∀ w', Touch [] w w' → Rs 3 1 w' (sliced va (at' + 1) vn vc 1) (vn - (at' + 1)) ((ints d.S.who).drop (at' + 1))) := fun w' X => (HRs.out w' X).tail (by omega) (by omega)
      have H1 : Hid ((∀ y ∈ (ints d.S.who).take at', y.oneCell' = true) ∧ ∀ y ∈ (ints d.S.who).drop (at' + 1), y.oneCell' = true) := ⟨fun y hy => ints_one y (List.mem_of_mem_take hy), fun y hy => ints_one y (List.mem_of_mem_drop hy)⟩
      obtain ⟨b1, eb1⟩ : ∃ b, sliced va 0 at' vc 1 = .slice b at' vc := ⟨_, by unfold sliced; rw [Nat.sub_zero, Nat.sub_zero]⟩
      obtain ⟨b2, eb2⟩ : ∃ b, sliced va (at' + 1) vn vc 1 = .slice b (vn - (at' + 1)) (vc - (at' + 1)) := ⟨_, rfl⟩
      rw [eb1] at HR1 hs1
      rw [eb2] at HR2 hs2
      clear eb1 eb2
      clear e1 e2 e3 e4 HQ HDg hn hgn hiv hlv hwl hwv ev hvn hdm hca eT hM hww hle hat hpw hal hcut hll hx HRs hvc
      generalize T.fl = fl at *
      generalize T.bg = bg at *
      generalize leaveB d.S x = rb at *
      generalize isC gs d.R = ic at *
      generalize leaveS d.S x = rS at *
      have HKc := hid (And.intro kT kZ)
      have a0 := cell_at (j := 0) kT rfl
      have a1 := cell_at (j := 1) kT rfl
      have a2 := cell_at (j := 2) kT rfl
      have a3 := cell_at (j := 3) kT rfl
      have af := froz_at kT
      have z0 := cell_at (j := 0) kZ rfl
      have z1 := cell_at (j := 1) kZ rfl
      have z2 := cell_at (j := 2) kZ rfl
      have z3 := cell_at (j := 3) kZ rfl
      have zf := froz_at kZ
      clear kT kZ
      go_enter Tryz.func13, Tryz.ntmps13
      go_upto_region 1 with fail
      rw [← hV]
      clear hV
      go_upto_region 4 with (go_at_call 35; refine (HF.out _ HTc.out).mono ?_; rintro e w2 ⟨rfl, t2⟩; obtain ⟨kT, kZ⟩ := HKc.out; replace kT := t2.keep kT (by first | (simp; done) | (simp; omega)); replace kZ := t2.keep kZ (by first | (simp; done) | (simp; omega)); clear HKc a0 a1 a2 a3 af z0 z1 z2 z3 zf; have HKc := hid (And.intro kT kZ); have a0 := cell_at (j := 0) kT rfl; have a1 := cell_at (j := 1) kT rfl; have a2 := cell_at (j := 2) kT rfl; have a3 := cell_at (j := 3) kT rfl; have af := froz_at kT; have z0 := cell_at (j := 0) kZ rfl; have z1 := cell_at (j := 1) kZ rfl; have z2 := cell_at (j := 2) kZ rfl; have z3 := cell_at (j := 3) kZ rfl; have zf := froz_at kZ; clear kT kZ; replace HTc := hid (HTc.out.trans' t2); clear t2)
      clear HF
      obtain ⟨g, c', e, _, _⟩ := own_some (HG.out _ HTc.out) (by omega)
      cases e
      obtain ⟨r0, r1, r2, r3, r4, r5, r6, r7⟩ := lr_cells (HG.out _ HTc.out) HD.out
      rw [Hev.out] at r7
      go_upto_region 5 with fail
      clear r0 r1 r2 r3 r4 r5 r6 r7
      obtain ⟨kT, kZ⟩ := HKc.out
      obtain ⟨W3, hW3⟩ : ∃ W, W = w2.alloc (.cells #[.int .i64 d.R.run, .int .i64 d.R.gen, .int .u16 d.R.sp, .string d.R.nm, .bool d.R.rf, .bool d.S.kept, .bool d.S.canc, .slice va vn vc] 78) := ⟨_, rfl⟩
      have tq : Touch [] w2 W3 := by rw [hW3]; exact (Touch.refl _ _).alloc _
      have kE : W3.heap[w2.heap.size]? = some (.cells #[.int .i64 d.R.run, .int .i64 d.R.gen, .int .u16 d.R.sp, .string d.R.nm, .bool d.R.rf, .bool d.S.kept, .bool d.S.canc, .slice va vn vc] 78 (0, 0)) := by rw [hW3]; exact heap_alloc_new w2 _
      have zeb : w.heap.size + 2 ≤ w2.heap.size := by have := block_lt kZ; omega
      replace kT := tq.keep kT (by simp)
      replace kZ := tq.keep kZ (by simp)
      replace HTc := hid (HTc.out.trans' tq)
      rw [← hW3]
      clear hW3 tq
      generalize w2.heap.size = eb at *
      clear HKc a0 a1 a2 a3 af z0 z1 z2 z3 zf
      have HKc := hid (And.intro kT (And.intro kZ kE))
      have a0 := cell_at (j := 0) kT rfl
      have a1 := cell_at (j := 1) kT rfl
      have a2 := cell_at (j := 2) kT rfl
      have a3 := cell_at (j := 3) kT rfl
      have af := froz_at kT
      have z0 := cell_at (j := 0) kZ rfl
      have z1 := cell_at (j := 1) kZ rfl
      have z2 := cell_at (j := 2) kZ rfl
      have z3 := cell_at (j := 3) kZ rfl
      have zf := froz_at kZ
      have x0 := cell_at (j := 0) kE rfl
      have x1 := cell_at (j := 1) kE rfl
      have x2 := cell_at (j := 2) kE rfl
      have x3 := cell_at (j := 3) kE rfl
      have x4 := cell_at (j := 4) kE rfl
      have x5 := cell_at (j := 5) kE rfl
      have x6 := cell_at (j := 6) kE rfl
      have x7 := cell_at (j := 7) kE rfl
      have xf := froz_at kE
      clear kT kZ kE
      clear HG HD Hev
      go_upto_region 8 with (go_at_call 40; refine (HWt.out _ HTc.out).mono ?_; rintro e w4 ⟨rfl, t4⟩; obtain ⟨kT, kZ, kE⟩ := HKc.out; replace kT := t4.keep kT (by first | (simp; done) | (simp; omega)); replace kZ := t4.keep kZ (by first | (simp; done) | (simp; omega)); replace kE := t4.keep kE (by first | (simp; done) | (simp; omega)); clear HKc a0 a1 a2 a3 af z0 z1 z2 z3 zf x0 x1 x2 x3 x4 x5 x6 x7 xf; have HKc := hid (And.intro kT (And.intro kZ kE)); have a0 := cell_at (j := 0) kT rfl; have a1 := cell_at (j := 1) kT rfl; have a2 := cell_at (j := 2) kT rfl; have a3 := cell_at (j := 3) kT rfl; have af := froz_at kT; have z0 := cell_at (j := 0) kZ rfl; have z1 := cell_at (j := 1) kZ rfl; have z2 := cell_at (j := 2) kZ rfl; have z3 := cell_at (j := 3) kZ rfl; have zf := froz_at kZ; have x0 := cell_at (j := 0) kE rfl; have x1 := cell_at (j := 1) kE rfl; have x2 := cell_at (j := 2) kE rfl; have x3 := cell_at (j := 3) kE rfl; have x4 := cell_at (j := 4) kE rfl; have x5 := cell_at (j := 5) kE rfl; have x6 := cell_at (j := 6) kE rfl; have x7 := cell_at (j := 7) kE rfl; have xf := froz_at kE; clear kT kZ kE; replace HTc := hid (HTc.out.trans' t4); clear t4)
      clear HWt
      have HM : Hid ((w4.alloc (.cells #[] 3)).ownsRow w4.heap.size 3 1 (.slice (some ⟨w4.heap.size, 0, none⟩) 0 0) 0 []) := World.ownsRow_made (e := 3) (size := 1) w4 #[] 0 (Nat.le_refl _) (by unfold maxLen; omega) rfl
      have HTa : Hid (Touch [] w (w4.alloc (.cells #[] 3))) := HTc.out.alloc _
      have xa := cell_at (j := 7) (((Touch.refl [] w4).alloc (.cells #[] 3)).keep HKc.out.2.2 (by simp)) rfl
      go_upto_region 9 with (at_builtin; refine wpList_append_rs rfl _ _ 75 3 rfl _ 1 8 info3 Tryz.underlying75 rfl (by decide) w4.heap.size _ 0 [] rfl HM.out _ at' _ rfl (HR1.out _ HTa.out) H1.out.1 (by have := HLn.out; unfold maxLen; omega) (by have := HLn.out; omega) (by simp) ?_; intro v5 w5 o5 g5 p5; rw [Nat.zero_add, List.nil_append] at o5; have t5 : Touch [] w4 w5 := touch_grown ((Touch.refl [] w4).alloc _) g5 HM.out (Nat.le_refl _); obtain ⟨a5, c5, e5⟩ := own_form o5; subst e5; have O5 := hid (own_base (B' := eb + 1) o5 (by have := block_lt HKc.out.2.2; omega)); clear xa HTa o5 g5 p5; obtain ⟨kT, kZ, kE⟩ := HKc.out; replace kT := t5.keep kT (by first | (simp; done) | (simp; omega)); replace kZ := t5.keep kZ (by first | (simp; done) | (simp; omega)); replace kE := t5.keep kE (by first | (simp; done) | (simp; omega)); clear HKc a0 a1 a2 a3 af z0 z1 z2 z3 zf x0 x1 x2 x3 x4 x5 x6 x7 xf; have HKc := hid (And.intro kT (And.intro kZ kE)); have a0 := cell_at (j := 0) kT rfl; have a1 := cell_at (j := 1) kT rfl; have a2 := cell_at (j := 2) kT rfl; have a3 := cell_at (j := 3) kT rfl; have af := froz_at kT; have z0 := cell_at (j := 0) kZ rfl; have z1 := cell_at (j := 1) kZ rfl; have z2 := cell_at (j := 2) kZ rfl; have z3 := cell_at (j := 3) kZ rfl; have zf := froz_at kZ; have x0 := cell_at (j := 0) kE rfl; have x1 := cell_at (j := 1) kE rfl; have x2 := cell_at (j := 2) kE rfl; have x3 := cell_at (j := 3) kE rfl; have x4 := cell_at (j := 4) kE rfl; have x5 := cell_at (j := 5) kE rfl; have x6 := cell_at (j := 6) kE rfl; have x7 := cell_at (j := 7) kE rfl; have xf := froz_at kE; clear kT kZ kE; replace HTc := hid (HTc.out.trans' t5); clear t5)
      clear HM hs1 HR1
      go_upto_region 10 with (at_builtin; refine wpList_append_rs rfl _ _ 75 3 rfl _ 1 8 info3 Tryz.underlying75 rfl (by decide) (eb + 1) _ at' _ rfl O5.out _ (vn - (at' + 1)) _ rfl (HR2.out _ HTc.out) H1.out.2 (by have := HLn.out; unfold maxLen; omega) (by have := HLn.out; omega) (by have := block_lt HKc.out.2.2; omega) ?_; intro v6 w6 o6 g6 p6; have tg := (Touch.refl _ _).grown g6 (fun q hq => Or.inl (Option.mem_toList.2 hq)); obtain ⟨kT, kZ, kE⟩ := HKc.out; replace kT := tg.keep kT (fun e => by have := (O5.out.lt _ (Option.mem_toList.1 e)).1; omega); replace kZ := tg.keep kZ (fun e => by have := (O5.out.lt _ (Option.mem_toList.1 e)).1; omega); replace kE := tg.keep kE (fun e => by have := (O5.out.lt _ (Option.mem_toList.1 e)).1; omega); clear HKc a0 a1 a2 a3 af z0 z1 z2 z3 zf x0 x1 x2 x3 x4 x5 x6 x7 xf; have HKc := hid (And.intro kT (And.intro kZ kE)); have a0 := cell_at (j := 0) kT rfl; have a1 := cell_at (j := 1) kT rfl; have a2 := cell_at (j := 2) kT rfl; have a3 := cell_at (j := 3) kT rfl; have af := froz_at kT; have z0 := cell_at (j := 0) kZ rfl; have z1 := cell_at (j := 1) kZ rfl; have z2 := cell_at (j := 2) kZ rfl; have z3 := cell_at (j := 3) kZ rfl; have zf := froz_at kZ; have x0 := cell_at (j := 0) kE rfl; have x1 := cell_at (j := 1) kE rfl; have x2 := cell_at (j := 2) kE rfl; have x3 := cell_at (j := 3) kE rfl; have x4 := cell_at (j := 4) kE rfl; have x5 := cell_at (j := 5) kE rfl; have x6 := cell_at (j := 6) kE rfl; have x7 := cell_at (j := 7) kE rfl; have xf := froz_at kE; clear kT kZ kE; replace HTc := hid (touch_grown HTc.out g6 O5.out (by omega)); clear tg; obtain ⟨a6, c6, e6⟩ := own_form o6; subst e6; have O6 := hid o6; clear o6 g6 p6 O5)
      clear HR2 hs2 H1
      obtain ⟨kT, kZ, kE⟩ := HKc.out
      obtain ⟨W7, hW7⟩ : ∃ W, W = (w6.setCell ⟨eb, 7, none⟩ (.slice a6 (at' + (vn - (at' + 1))) c6)) := ⟨_, rfl⟩
      obtain ⟨kq, tq⟩ := set1 kE 7 (.slice a6 (at' + (vn - (at' + 1))) c6)
      rw [← hW7] at kq tq ⊢
      clear hW7
      replace kT := tq.keep kT (by first | (simp; done) | (simp; omega))
      replace kZ := tq.keep kZ (by first | (simp; done) | (simp; omega))
      replace kE := kq
      clear kq
      clear HKc a0 a1 a2 a3 af z0 z1 z2 z3 zf x0 x1 x2 x3 x4 x5 x6 x7 xf
      have HKc := hid (And.intro kT (And.intro kZ kE))
      have a0 := cell_at (j := 0) kT rfl
      have a1 := cell_at (j := 1) kT rfl
      have a2 := cell_at (j := 2) kT rfl
      have a3 := cell_at (j := 3) kT rfl
      have af := froz_at kT
      have z0 := cell_at (j := 0) kZ rfl
      have z1 := cell_at (j := 1) kZ rfl
      have z2 := cell_at (j := 2) kZ rfl
      have z3 := cell_at (j := 3) kZ rfl
      have zf := froz_at kZ
      have x0 := cell_at (j := 0) kE rfl
      have x1 := cell_at (j := 1) kE rfl
      have x2 := cell_at (j := 2) kE rfl
      have x3 := cell_at (j := 3) kE rfl
      have x4 := cell_at (j := 4) kE rfl
      have x5 := cell_at (j := 5) kE rfl
      have x6 := cell_at (j := 6) kE rfl
      have x7 := cell_at (j := 7) kE rfl
      have xf := froz_at kE
      clear kT kZ kE
      replace HTc := hid (HTc.out.trans tq (fun b hb => Or.inr (by simp at hb; omega)))
      replace O6 := hid (own_touch O6.out tq (fun b hb e => by have := (O6.out.lt b hb).1; simp at e; omega))
      clear tq
      go_upto_region 11 with (go_at_call 47; refine (HL.out _ _ _ HTc.out).mono ?_; rintro e w8 ⟨a5, c5, b5, m5, d5, rfl, o5, y5, p5, u5, t5⟩; replace o5 := own_base (B' := w.heap.size + 2) o5 (by have := block_lt HKc.out.2.1; omega); replace u5 := fun q hq => (u5 q hq).imp id (fun hh => (Nat.le_trans (by have := block_lt HKc.out.2.1; omega) hh : w.heap.size + 2 ≤ q)); replace O6 := hid (own_touch O6.out t5 (fun _ _ e => by cases e)); obtain ⟨kT, kZ, kE⟩ := HKc.out; replace kT := t5.keep kT (by first | (simp; done) | (simp; omega)); replace kZ := t5.keep kZ (by first | (simp; done) | (simp; omega)); replace kE := t5.keep kE (by first | (simp; done) | (simp; omega)); clear HKc a0 a1 a2 a3 af z0 z1 z2 z3 zf x0 x1 x2 x3 x4 x5 x6 x7 xf; have HKc := hid (And.intro kT (And.intro kZ kE)); have a0 := cell_at (j := 0) kT rfl; have a1 := cell_at (j := 1) kT rfl; have a2 := cell_at (j := 2) kT rfl; have a3 := cell_at (j := 3) kT rfl; have af := froz_at kT; have z0 := cell_at (j := 0) kZ rfl; have z1 := cell_at (j := 1) kZ rfl; have z2 := cell_at (j := 2) kZ rfl; have z3 := cell_at (j := 3) kZ rfl; have zf := froz_at kZ; have x0 := cell_at (j := 0) kE rfl; have x1 := cell_at (j := 1) kE rfl; have x2 := cell_at (j := 2) kE rfl; have x3 := cell_at (j := 3) kE rfl; have x4 := cell_at (j := 4) kE rfl; have x5 := cell_at (j := 5) kE rfl; have x6 := cell_at (j := 6) kE rfl; have x7 := cell_at (j := 7) kE rfl; have xf := froz_at kE; clear kT kZ kE; replace HTc := hid (HTc.out.trans' t5); have O5 := hid o5; have P5 := hid (And.intro y5 (And.intro p5 u5)); clear o5 y5 p5 u5; clear t5)
      obtain ⟨kT, kZ, kE⟩ := HKc.out
      obtain ⟨W9, hW9⟩ : ∃ W, W = ((((w8.setCell ⟨w.heap.size, 0, none⟩ (.int .i64 fl)).setCell ⟨w.heap.size, 1, none⟩ (.int .i64 bg)).setCell ⟨w.heap.size, 2, none⟩ (.slice a5 n c5)).setCell ⟨w.heap.size, 3, none⟩ (.slice b5 m5 d5)) := ⟨_, rfl⟩
      obtain ⟨kq, tq⟩ := finZ kT (.int .i64 fl) (.int .i64 bg) (.slice a5 n c5) (.slice b5 m5 d5)
      rw [← hW9] at kq tq ⊢
      clear hW9
      replace kT := kq
      replace kZ := tq.keep kZ (by first | (simp; done) | (simp; omega))
      replace kE := tq.keep kE (by first | (simp; done) | (simp; omega))
      clear kq
      clear HKc a0 a1 a2 a3 af z0 z1 z2 z3 zf x0 x1 x2 x3 x4 x5 x6 x7 xf
      have HKc := hid (And.intro kT (And.intro kZ kE))
      have a0 := cell_at (j := 0) kT rfl
      have a1 := cell_at (j := 1) kT rfl
      have a2 := cell_at (j := 2) kT rfl
      have a3 := cell_at (j := 3) kT rfl
      have af := froz_at kT
      have z0 := cell_at (j := 0) kZ rfl
      have z1 := cell_at (j := 1) kZ rfl
      have z2 := cell_at (j := 2) kZ rfl
      have z3 := cell_at (j := 3) kZ rfl
      have zf := froz_at kZ
      have x0 := cell_at (j := 0) kE rfl
      have x1 := cell_at (j := 1) kE rfl
      have x2 := cell_at (j := 2) kE rfl
      have x3 := cell_at (j := 3) kE rfl
      have x4 := cell_at (j := 4) kE rfl
      have x5 := cell_at (j := 5) kE rfl
      have x6 := cell_at (j := 6) kE rfl
      have x7 := cell_at (j := 7) kE rfl
      have xf := froz_at kE
      clear kT kZ kE
      replace HTc := hid (HTc.out.trans tq (fun b hb => Or.inr (by simp at hb; omega)))
      replace O5 := hid (own_touch O5.out tq (fun b hb e => by have := (O5.out.lt b hb).1; simp at e; omega))
      replace P5 := hid (And.intro P5.out.1 (And.intro (own_touch P5.out.2.1 tq (fun b hb e => by rcases P5.out.2.2 b hb with q | q; (have := HGb.out b q; simp at e; omega); (simp at e; omega))) P5.out.2.2))
      replace O6 := hid (own_touch O6.out tq (fun b hb e => by have := (O6.out.lt b hb).1; simp at e; omega))
      clear tq
      clear HL
      go_wp2
      obtain ⟨kT, kZ, kE⟩ := HKc.out
      obtain ⟨q4, tF⟩ := finZ kZ (.int .i64 fl) (.int .i64 bg) (.slice a5 n c5) (.slice b5 m5 d5)
      have q0 := cell_at (j := 0) q4 rfl
      have q1 := cell_at (j := 1) q4 rfl
      have q2 := cell_at (j := 2) q4 rfl
      have q3 := cell_at (j := 3) q4 rfl
      exact bodyPost_ret (v := .tuple #[.agg #[.int .i64 fl, .int .i64 bg, .slice a5 n c5, .slice b5 m5 d5], .bool rb, .bool (rb && ic), .int .i64 0]) (by simp [results, Tryz.results13, go_sem, q0, q1, q2, q3]) rfl (HE.out _ _ _ _ _ _ _ _ (own_base (own_touch O5.out tF (fun b hb e => by have := (O5.out.lt b hb).1; simp at e; omega)) (by omega)) (own_base (own_touch O6.out tF (fun b hb e => by have := (O6.out.lt b hb).1; simp at e; omega)) (by omega)) P5.out.1 (own_touch P5.out.2.1 tF (fun b hb e => by rcases P5.out.2.2 b hb with q | q; (have := HGb.out b q; simp at e; omega); (simp at e; omega))) (fun q hq => (P5.out.2.2 q hq).imp id (fun hh => by omega)) (HTc.out.trans tF (fun b hb => Or.inr (by simp at hb; omega))))
    · have hle : leaveE d.S x = 112 := by simp [leaveE, hlv, hx]
      have hpw : posW d.S.who x = -1 := by unfold posW; rw [if_neg hx]
      rw [hpw] at HWt
      have HE : Hid (∀ w', Touch [] w w' → Q (.returned (.tuple #[.agg #[.int .i64 T.fl, .int .i64 T.bg, .slice la n lc, .slice ga gn gc], .bool false, .bool false, .int .i64 112])) w') := fun w' X => HQ.out _ _ ⟨.slice la n lc, .slice ga gn gc, gs, by simp [tv, tLeave, tLeaveC, tLeaveA, tLeaveE, e4, leaveB, hle, goneB, goneT, leaveS, setS], by
        have := HDg.out.stay X
        have e : tLeave T nn x = T := by
          have := setS_same HDg.out.ti e4
          simpa [tLeave, e4, leaveB, leaveS, hle, goneT, goneB] using this
        rw [e]
        exact this, by omega⟩
      clear e1 e2 e3 e4 HQ HDg hn hgn hiv hlv hwl hwv ev hvn hdm eT hM hww hle hpw hx
      generalize T.fl = fl at *
      generalize T.bg = bg at *
      have HKc := hid (And.intro kT kZ)
      have a0 := cell_at (j := 0) kT rfl
      have a1 := cell_at (j := 1) kT rfl
      have a2 := cell_at (j := 2) kT rfl
      have a3 := cell_at (j := 3) kT rfl
      have af := froz_at kT
      have z0 := cell_at (j := 0) kZ rfl
      have z1 := cell_at (j := 1) kZ rfl
      have z2 := cell_at (j := 2) kZ rfl
      have z3 := cell_at (j := 3) kZ rfl
      have zf := froz_at kZ
      clear kT kZ
      go_enter Tryz.func13, Tryz.ntmps13
      go_upto_region 1 with fail
      rw [← hV]
      clear hV
      go_upto_region 4 with (go_at_call 35; refine (HF.out _ HTc.out).mono ?_; rintro e w2 ⟨rfl, t2⟩; obtain ⟨kT, kZ⟩ := HKc.out; replace kT := t2.keep kT (by first | (simp; done) | (simp; omega)); replace kZ := t2.keep kZ (by first | (simp; done) | (simp; omega)); clear HKc a0 a1 a2 a3 af z0 z1 z2 z3 zf; have HKc := hid (And.intro kT kZ); have a0 := cell_at (j := 0) kT rfl; have a1 := cell_at (j := 1) kT rfl; have a2 := cell_at (j := 2) kT rfl; have a3 := cell_at (j := 3) kT rfl; have af := froz_at kT; have z0 := cell_at (j := 0) kZ rfl; have z1 := cell_at (j := 1) kZ rfl; have z2 := cell_at (j := 2) kZ rfl; have z3 := cell_at (j := 3) kZ rfl; have zf := froz_at kZ; clear kT kZ; replace HTc := hid (HTc.out.trans' t2); clear t2)
      clear HF
      obtain ⟨g, c', e, _, _⟩ := own_some (HG.out _ HTc.out) (by omega)
      cases e
      obtain ⟨r0, r1, r2, r3, r4, r5, r6, r7⟩ := lr_cells (HG.out _ HTc.out) HD.out
      rw [Hev.out] at r7
      go_upto_region 5 with fail
      clear r0 r1 r2 r3 r4 r5 r6 r7
      obtain ⟨kT, kZ⟩ := HKc.out
      obtain ⟨W3, hW3⟩ : ∃ W, W = w2.alloc (.cells #[.int .i64 d.R.run, .int .i64 d.R.gen, .int .u16 d.R.sp, .string d.R.nm, .bool d.R.rf, .bool d.S.kept, .bool d.S.canc, .slice va vn vc] 78) := ⟨_, rfl⟩
      have tq : Touch [] w2 W3 := by rw [hW3]; exact (Touch.refl _ _).alloc _
      have kE : W3.heap[w2.heap.size]? = some (.cells #[.int .i64 d.R.run, .int .i64 d.R.gen, .int .u16 d.R.sp, .string d.R.nm, .bool d.R.rf, .bool d.S.kept, .bool d.S.canc, .slice va vn vc] 78 (0, 0)) := by rw [hW3]; exact heap_alloc_new w2 _
      have zeb : w.heap.size + 2 ≤ w2.heap.size := by have := block_lt kZ; omega
      replace kT := tq.keep kT (by simp)
      replace kZ := tq.keep kZ (by simp)
      replace HTc := hid (HTc.out.trans' tq)
      rw [← hW3]
      clear hW3 tq
      generalize w2.heap.size = eb at *
      clear HKc a0 a1 a2 a3 af z0 z1 z2 z3 zf
      have HKc := hid (And.intro kT (And.intro kZ kE))
      have a0 := cell_at (j := 0) kT rfl
      have a1 := cell_at (j := 1) kT rfl
      have a2 := cell_at (j := 2) kT rfl
      have a3 := cell_at (j := 3) kT rfl
      have af := froz_at kT
      have z0 := cell_at (j := 0) kZ rfl
      have z1 := cell_at (j := 1) kZ rfl
      have z2 := cell_at (j := 2) kZ rfl
      have z3 := cell_at (j := 3) kZ rfl
      have zf := froz_at kZ
      have x0 := cell_at (j := 0) kE rfl
      have x1 := cell_at (j := 1) kE rfl
      have x2 := cell_at (j := 2) kE rfl
      have x3 := cell_at (j := 3) kE rfl
      have x4 := cell_at (j := 4) kE rfl
      have x5 := cell_at (j := 5) kE rfl
      have x6 := cell_at (j := 6) kE rfl
      have x7 := cell_at (j := 7) kE rfl
      have xf := froz_at kE
      clear kT kZ kE
      clear HG HD Hev
      go_wp2_with (go_at_call 40; refine (HWt.out _ HTc.out).mono ?_; rintro e w4 ⟨rfl, t4⟩; obtain ⟨kT, kZ, kE⟩ := HKc.out; replace kT := t4.keep kT (by first | (simp; done) | (simp; omega)); replace kZ := t4.keep kZ (by first | (simp; done) | (simp; omega)); replace kE := t4.keep kE (by first | (simp; done) | (simp; omega)); clear HKc a0 a1 a2 a3 af z0 z1 z2 z3 zf x0 x1 x2 x3 x4 x5 x6 x7 xf; have HKc := hid (And.intro kT (And.intro kZ kE)); have a0 := cell_at (j := 0) kT rfl; have a1 := cell_at (j := 1) kT rfl; have a2 := cell_at (j := 2) kT rfl; have a3 := cell_at (j := 3) kT rfl; have af := froz_at kT; have z0 := cell_at (j := 0) kZ rfl; have z1 := cell_at (j := 1) kZ rfl; have z2 := cell_at (j := 2) kZ rfl; have z3 := cell_at (j := 3) kZ rfl; have zf := froz_at kZ; have x0 := cell_at (j := 0) kE rfl; have x1 := cell_at (j := 1) kE rfl; have x2 := cell_at (j := 2) kE rfl; have x3 := cell_at (j := 3) kE rfl; have x4 := cell_at (j := 4) kE rfl; have x5 := cell_at (j := 5) kE rfl; have x6 := cell_at (j := 6) kE rfl; have x7 := cell_at (j := 7) kE rfl; have xf := froz_at kE; clear kT kZ kE; replace HTc := hid (HTc.out.trans' t4); clear t4)
      obtain ⟨kT, kZ, kE⟩ := HKc.out
      obtain ⟨q4, tF⟩ := finZ kZ (.int .i64 fl) (.int .i64 bg) (.slice (some ⟨g, 0, none⟩) n lc) (.slice ga gn gc)
      have q0 := cell_at (j := 0) q4 rfl
      have q1 := cell_at (j := 1) q4 rfl
      have q2 := cell_at (j := 2) q4 rfl
      have q3 := cell_at (j := 3) q4 rfl
      exact bodyPost_ret (v := .tuple #[.agg #[.int .i64 fl, .int .i64 bg, .slice (some ⟨g, 0, none⟩) n lc, .slice ga gn gc], .bool false, .bool false, .int .i64 112]) (by simp [results, Tryz.results13, go_sem, q0, q1, q2, q3]) rfl (HE.out _ (HTc.out.trans tF (fun b hb => Or.inr (by simp at hb; omega))))
end Go.Proofs.YtpihhlllembdeaaGreat
