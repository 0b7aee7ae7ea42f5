/- The contracts of Forget and End. -/
import Derived.Test.YtpihhlllembdeaaGreatTbl
import Derived.Test.YtpihhlllembdeaaGreatEnd
namespace Go.Proofs.YtpihhlllembdeaaGreat
open Go.RowKit Go.Maps Go.ChangeMaps
set_option linter.unusedVariables false
set_option linter.unusedSimpArgs false
section
variable (w : World) (t : Nat) (F : List Nat) (T : Tb) (N : Nat)
set_option maxHeartbeats 4000000 in
set_option maxRecDepth 100000 in
theorem forgetT (h : Tq w t F T N) (hN : N ≤ 3000000000000) (k : K) (hk : Ok k) : Calls Tryz.prog 16 #[PT t, kv k] w fun e w' => e = .returned (.tuple #[.int .i64 (tForN T k), .int .i64 (tForR T k), .int .i64 (tForE k)]) ∧ TqE w w' t F (tFor T k) (N + 1) := by
  obtain ⟨W, hW⟩ : ∃ W, W = w.alloc (bxK k) := ⟨_, rfl⟩
  have t0 : Touch [] w W := by rw [hW]; exact (Touch.refl _ _).alloc _
  have hF := h.lt
  have h1 := h.keep0 t0
  have HC := hid (fCheck W k hk)
  have hb : W.heap[w.heap.size]? = some (.cells #[.int .u16 k.1, .string k.2] 34 (0, 0)) := by rw [hW]; exact heap_alloc_new w _
  have HB : Hid (∀ w2, Touch F W w2 → w2.cell? ⟨w.heap.size, 0, none⟩ = some (.int .u16 k.1) ∧ w2.cell? ⟨w.heap.size, 1, none⟩ = some (.string k.2)) := fun w2 T' => by
    have q := T'.keep hb (fun e => by have := hF _ e; omega)
    exact ⟨cell_at q rfl, cell_at q rfl⟩
  have HL : Hid (∀ w2, Touch [] W w2 → ∃ c, w2.cell? ⟨t, 3, none⟩ = some (.map (some c)) ∧ ∀ n, (Instr.lookup 46 (.map (some c)) (.agg #[.int .u16 k.1, .string k.2]) false).run Tryz.prog (w2.drewN n) = .ok (.int .i64 (((curOf T k).map Rn.run).getD 0)) (w2.drewN n)) := fun w2 T' => by
    obtain ⟨p, c, g, nc, ng, Ps, rfl, h, hL⟩ := h1.keep0 T'
    exact ⟨c, h.cs.c3, fun n => (h.keep0 ((Touch.refl _ _).drewN n)).lookC hk⟩
  have HO : Hid (∀ w2, Touch [] W w2 → Calls Tryz.prog 50 #[PT t, kv k] w2 fun e w' => e = .returned (.tuple #[]) ∧ TqE W w' t F (goOn T k) (N + 1)) := fun w2 T' => (goOnT (h1.keep0 T') hN hk).mono (fun e w' hh => ⟨hh.1, TqE.from0 T' hh.2⟩)
  have HG : Hid (∀ w2, TqE W w2 t F (goOn T k) (N + 1) → Touch F W w2 ∧ ∃ g, w2.cell? ⟨t, 4, none⟩ = some (.map g) ∧ ∀ n, (Instr.lookup 46 (.map g) (.agg #[.int .u16 k.1, .string k.2]) false).run Tryz.prog (w2.drewN n) = .ok (.int .i64 (T.gn k + 1)) (w2.drewN n)) := fun w2 q => by
    obtain ⟨F1, ⟨p, c, g, nc, ng, Ps, rfl, h, hL⟩, q2, q3⟩ := q
    refine ⟨q2, g, h.cs.c4, fun n => ?_⟩
    have := (h.keep0 ((Touch.refl _ _).drewN n)).lookG hk
    simp only [goOn, if_true] at this
    exact this
  have HS : Hid (∀ w2, Touch [] W w2 → TqE w w2 t F T (N + 1)) := fun w2 T' => TqE.touch h (t0.trans' T') (Nat.le_succ N)
  have HT : Hid (∀ w2 n, TqE W w2 t F (goOn T k) (N + 1) → TqE w (w2.drewN n) t F (goOn T k) (N + 1)) := fun w2 n q => TqE.from0 t0 (q.then0 ((Touch.refl _ _).drewN n))
  unfold tForN tForR tFor tForE at *
  clear h h1 hF hb
  unfold bxK at hW
  unfold kv at *
  cases hm : mayK k with
  | false =>
    rw [hm] at HC
    simp only [Bool.false_eq_true, if_false] at HC ⊢
    clear HL HO HG HT hm t0
    unfold PT at *
    obtain ⟨b0, b1⟩ := HB.out W (Touch.refl _ _)
    go_enter Tryz.func16, Tryz.ntmps16
    go_upto_region 1 with fail
    rw [← hW]
    clear hW
    go_wp2_with (go_at_call 49; refine HC.out.mono ?_; rintro e w2 ⟨rfl, t2⟩; have T2 := hid t2; clear t2)
    exact bodyPost_ret (v := .tuple #[.int .i64 0, .int .i64 0, .int .i64 20]) (by simp [results, Tryz.results16, go_sem]) rfl ⟨rfl, HS.out _ T2.out⟩
  | true =>
    rw [hm] at HC
    simp only [if_true] at HC ⊢
    clear HS hm
    generalize ((curOf T k).map Rn.run).getD 0 = v at *
    generalize T.gn k + 1 = v2 at *
    generalize goOn T k = T2 at *
    unfold PT at *
    obtain ⟨b0, b1⟩ := HB.out W (Touch.refl _ _)
    go_enter Tryz.func16, Tryz.ntmps16
    go_upto_region 1 with fail
    rw [← hW]
    clear hW
    go_wp2_with (go_at_call 49; refine HC.out.mono ?_; rintro e w2 ⟨rfl, t2⟩; clear b0 b1; obtain ⟨b0, b1⟩ := HB.out w2 (t2.mono (fun _ e => by cases e)); obtain ⟨c, c3, hl⟩ := HL.out w2 t2; have T2 := hid t2; clear t2)
    go_quiet (fail)
    go_wp2_with (go_at_call 50; refine (HO.out _ (T2.out.drewN _)).mono ?_; rintro e w3 ⟨rfl, r3⟩; clear b0 b1 c3 hl; obtain ⟨tf, g, c4, hl⟩ := HG.out w3 r3; obtain ⟨b0, b1⟩ := HB.out w3 tf; have R3 := hid r3; clear r3 tf)
    go_quiet (fail)
    go_wp2
    exact bodyPost_ret (v := .tuple #[.int .i64 v2, .int .i64 v, .int .i64 0]) (by simp [results, Tryz.results16, go_sem]) rfl ⟨rfl, HT.out _ _ R3.out⟩
end
section
variable {w w' : World} {t p c : Nat} {g : Option Nat} {nc ng : Nat} {T : Tb} {N : Nat} {A B : List Rb} {q : Rb}
theorem Tv.low {B B' : Nat} {w : World} {v : Value} {xs : List Int} {o : O} (h : Tv B w v xs o) (hb : B' ≤ B) : Tv B' w v xs o := by
  obtain ⟨a, c, e, h1 | ⟨t, cur, e1, h2, h3⟩⟩ := h
  · exact ⟨a, c, e, Or.inl h1⟩
  · exact ⟨a, c, e, Or.inr ⟨t, cur, e1, Nat.le_trans hb h2, h3⟩⟩
theorem Tm.self (h : Tm w t p c g nc ng (A ++ q :: B) T N) : setS T q.R.run q.S = T := by
  obtain ⟨h1, h2⟩ := h.after
  have := rs_set (S := q.S) (f := q.F) h1 h2
  unfold setS
  rw [h.rs, this, ← h.rs]
theorem rs_out (hA : ∀ a ∈ A, a.R.run ≠ q.R.run) (hB : ∀ b ∈ B, b.R.run ≠ q.R.run) : (rsOf (A ++ q :: B)).filter (fun r => decide (r.1.run ≠ q.R.run)) = rsOf (A ++ B) := by
  have h1 : ∀ L : List Rb, (∀ a ∈ L, a.R.run ≠ q.R.run) → (rsOf L).filter (fun r => decide (r.1.run ≠ q.R.run)) = rsOf L := fun L hL => by
    refine List.filter_eq_self.2 (fun r hr => ?_)
    obtain ⟨a, ha, rfl⟩ := List.mem_map.1 hr
    simp [hL a ha]
  have e1 : rsOf (A ++ q :: B) = rsOf A ++ (q.R, q.S) :: rsOf B := by simp [rsOf]
  have e2 : rsOf (A ++ B) = rsOf A ++ rsOf B := by simp [rsOf]
  rw [e1, e2, List.filter_append, List.filter_cons, h1 A hA, h1 B hB]
  simp
theorem outR_setS (T : Tb) (n : Int) (S : St) : outR (setS T n S) n = outR T n := by
  unfold outR setS
  congr 1
  induction T.rs with
  | nil => rfl
  | cons a r ih =>
    simp only [List.map_cons, List.filter_cons]
    rw [ih, putS_fst]
    by_cases e : a.1.run = n
    · simp [e]
    · simp [e, putS]
theorem ptr_out (hA : ∀ a ∈ A, a.R.run ≠ q.R.run) (hB : ∀ b ∈ B, b.R.run ≠ q.R.run) (n : Int) : kdel (ptr (A ++ q :: B)) q.R.run n = ptr (A ++ B) n := by
  unfold kdel
  split
  · rename_i e
    rw [e, ptr_none]
    intro x hx
    rcases List.mem_append.1 hx with e | e
    · exact hA x e
    · exact hB x e
  · rename_i e
    unfold ptr
    rw [List.find?_append, List.find?_append, List.find?_cons_of_neg (by simp; exact fun e' => e e'.symm)]
theorem Tm.gone {W4 W5 : World} {n4 nc5 : Nat} (h : Tm w t p c g nc ng (A ++ q :: B) T N) (T4 : Touch [p] w W4) (m4 : MapK KI W4 p n4 (kdel (ptr (A ++ q :: B)) q.R.run)) (h4 : n4 = (A ++ B).length) (T5 : Touch [c] W4 W5) (m5 : MapK KC W5 c nc5 (curV (outR T q.R.run))) (h5 : nc5 ≤ N) : Tm W5 t p c g nc5 ng (A ++ B) (outR T q.R.run) N ∧ Touch [p, c] w W5 := by
  obtain ⟨hA, hB⟩ := h.after
  obtain ⟨nt1, nt2, nt3⟩ := h.tne
  have TT : Touch [p, c] w W5 := (T4.mono (by simp)).trans (T5.mono (by simp)) (fun i hi => Or.inl hi)
  have hin : ∀ x, x ∈ A ++ B → x ∈ A ++ q :: B := fun x hx => by rcases List.mem_append.1 hx with e | e <;> simp [e]
  refine ⟨⟨?_, TT.keep h.bl (by simp [nt1, nt2]), ?_, m5, h.gm.keep TT (fun d hd e => ?_), h.pc, h.gp, h.gc, h5, h.lg, fun x hx => (h.recs x (hin x hx)).keep TT (fun d hd e => ?_), fun x hx => h.far x (hin x hx), ?_, h.iv.outR _⟩, TT⟩
  · simp only [outR, h.rs]; exact rs_out hA hB
  · rw [← h4]; exact (m4.keep T5 (by simp [h.pc])).congr (fun n _ => ptr_out hA hB n)
  · simp only [List.mem_cons, List.not_mem_nil, or_false] at e
    rcases e with e | e
    · exact h.gp (by rw [hd, e])
    · exact h.gc (by rw [hd, e])
  · have := h.far x (hin x hx) d hd
    simp only [List.mem_cons, List.not_mem_nil, or_false] at e
    rcases e with e | e
    · exact this.2.1 e
    · exact this.2.2.1 e
  · obtain ⟨a1, a2, a3⟩ := List.pairwise_append.1 h.apart
    exact List.pairwise_append.2 ⟨a1, (List.pairwise_cons.1 a2).2, fun a ha b hb => a3 a ha b (by simp [hb])⟩
/-- The record is taken out of the map. -/
theorem Tm.delP (h : Tm w t p c g nc ng (A ++ q :: B) T N) (hN : N ≤ 3000000000000) (ty : TypeId) : ∃ o, (Builtin.delete_ #[45, 3] ty #[.map (some p), .int .i64 q.R.run]).run Tryz.prog w = .ok (.tuple #[]) (setBlock w p o) ∧ Touch [p] w (setBlock w p o) ∧ MapK KI (setBlock w p o) p (A ++ B).length (kdel (ptr (A ++ q :: B)) q.R.run) := by
  obtain ⟨o, q1, q2⟩ := h.pm.del (t := 45) Tryz.underlying45 (h.w64 hN) ty
  rw [ptr_mid h.after.1] at q2
  refine ⟨o, q1, touch_setBlock (Touch.refl _ _) (Or.inl (by simp)) o, ?_⟩
  have e : (A ++ q :: B).length - 1 = (A ++ B).length := by simp
  simp only [Option.isSome_some, if_true] at q2
  rw [e] at q2
  exact q2
end
section
variable (w : World) (t : Nat) (F : List Nat) (T : Tb) (N : Nat)
def TeE (e : Ending) (w w' : World) (t : Nat) (F : List Nat) (T : Tb) (n : Int) (o : O) (N : Nat) : Prop := ∃ v, e = .returned (.tuple #[v, .bool (tEndC T n o), .int .i64 (tEndE T n o)]) ∧ Tv w.heap.size w' v (tEndL T n o) o ∧ TqE w w' t F (tEnd T n o) N
set_option maxHeartbeats 2000000 in
theorem tEnd_no (h : Tq w t F T N) (n : Int) (o : O) (hn : W64 n) (hr : runOf T n = none) : Calls Tryz.prog 21 #[PT t, .int .i64 n, ov o] w fun e w' => e = .returned (.tuple #[.slice none 0 0, .bool false, .int .i64 122]) ∧ Touch [] w w' := by
  obtain ⟨p, c, g, nc, ng, Ps, rfl, h, hL⟩ := h
  have HR := hid (fun o => tRecord (h.keep0 ((Touch.refl _ _).alloc o)) n hn)
  rw [h.notIn hr] at HR
  simp only [Option.getD_none] at HR
  clear h
  unfold PT ov at *
  go_enter Tryz.func21, Tryz.ntmps21
  go_wp2_with (go_at_call 42; refine (HR.out _).mono ?_; rintro e w2 ⟨rfl, rfl⟩)
  refine bodyPost_ret (v := .tuple #[.slice none 0 0, .bool false, .int .i64 122]) (by simp [results, Tryz.results21, go_sem]) rfl ⟨rfl, ?_⟩
  repeat (first | exact Touch.refl _ _ | apply Touch.alloc | (refine Touch.setCell ?_ (Or.inr (by simp)) _))
set_option maxHeartbeats 4000000 in
set_option maxRecDepth 100000 in
theorem tEnd_at {p c : Nat} {g : Option Nat} {nc ng : Nat} {A B : List Rb} {q : Rb} (h : Tm w t p c g nc ng (A ++ q :: B) T N) (hN : N ≤ 3000000000000) (hL : Lv T) (o : O) :
    Calls Tryz.prog 21 #[PT t, .int .i64 q.R.run, ov o] w fun e w' => ∃ v, e = .returned (.tuple #[v, .bool (decide (endE q.S o = 0) && isCur T q.R), .int .i64 (endE q.S o)]) ∧ Tv w.heap.size w' v (endL q.S o) o ∧ TqE w w' t (fpT t p c g (A ++ q :: B)) (if endE q.S o = 0 then outR T q.R.run else T) N := by
  obtain ⟨F, hFe⟩ : ∃ F, F = fpT t p c g (A ++ q :: B) := ⟨_, rfl⟩
  obtain ⟨W, hW⟩ : ∃ W, W = w.alloc (.cells #[.int .i64 o.1, .int .i64 o.2.1, .int .i64 o.2.2.1, .int .i64 o.2.2.2] 38) := ⟨_, rfl⟩
  have t0 : Touch [] w W := by rw [hW]; exact (Touch.refl _ _).alloc _
  have hz0 := t0.size
  have hF : ∀ d, d ∈ F → d < w.heap.size := by rw [hFe]; exact h.lt
  have h1 := h.keep0 t0
  have HR := hid (tRecord_at h1 hN)
  have HE := hid (end11 W q.b N q.F q.R q.S (h1.recs q (by simp)) hN o)
  unfold EnE at HE
  have hb : W.heap[w.heap.size]? = some (.cells #[.int .i64 o.1, .int .i64 o.2.1, .int .i64 o.2.2.1, .int .i64 o.2.2.2] 38 (0, 0)) := by rw [hW]; exact heap_alloc_new w _
  obtain ⟨x0, x1, x2, x3⟩ : W.cell? ⟨w.heap.size, 0, none⟩ = some (.int .i64 o.1) ∧ W.cell? ⟨w.heap.size, 1, none⟩ = some (.int .i64 o.2.1) ∧ W.cell? ⟨w.heap.size, 2, none⟩ = some (.int .i64 o.2.2.1) ∧ W.cell? ⟨w.heap.size, 3, none⟩ = some (.int .i64 o.2.2.2) := ⟨cell_at hb rfl, cell_at hb rfl, cell_at hb rfl, cell_at hb rfl⟩
  have lp := h.pm.lt
  have lc := h.cm.lt
  rw [← hFe]
  by_cases hz : endE q.S o = 0
  · have hcu : isCur (setS T q.R.run (endS q.S o)) q.R = isCur T q.R := rfl
    have HP : Hid (∀ w2, RqE W w2 q.b q.F q.R (endS q.S o) N → ∃ q', q'.R = q.R ∧ q'.b = q.b ∧ Tm w2 t p c g nc ng (A ++ q' :: B) (setS T q.R.run (endS q.S o)) N ∧ Touch F W w2) := fun w2 e => by
      obtain ⟨f, r1, r2, r3⟩ := h1.step e (Nat.le_refl N)
      exact ⟨⟨q.R, endS q.S o, q.b, f⟩, rfl, rfl, r1, by rw [hFe]; exact r2.mono fp_rec⟩
    have hfin : ∀ w2 q' w3 W4 W5 nc5, q'.R = q.R → Tm w2 t p c g nc ng (A ++ q' :: B) (setS T q.R.run (endS q.S o)) N → Touch F W w2 → Touch [] w2 w3 → Touch [p] w3 W4 → MapK KI W4 p (A ++ B).length (kdel (ptr (A ++ q' :: B)) q.R.run) → Touch [c] W4 W5 → MapK KC W5 c nc5 (curV (outR T q.R.run)) → nc5 ≤ N → TqE w W5 t F (outR T q.R.run) N := fun w2 q' w3 W4 W5 nc5 e1 m2 tf t3 t4 m4 t5 m5 h5 => by
      rw [← e1] at m2 m4 m5 ⊢
      rw [← outR_setS T q'.R.run (endS q.S o)] at m5 ⊢
      obtain ⟨g1, g2⟩ := (m2.keep0 t3).gone t4 m4 rfl t5 m5 h5
      refine TqE.from0 t0 ⟨_, ⟨p, c, g, nc5, ng, A ++ B, rfl, g1, ?_⟩, (tf.trans t3 (fun _ e => by cases e)).trans g2 (fun i hi => ?_), fun d hd => ?_⟩
      · rw [outR_setS]; exact hL.outR
      · rw [hFe]
        simp only [List.mem_cons, List.not_mem_nil, or_false] at hi
        rcases hi with e | e
        · exact Or.inl (mem_fpT.2 (Or.inr (Or.inl e)))
        · exact Or.inl (mem_fpT.2 (Or.inr (Or.inr (Or.inl e))))
      · rw [hFe]
        rcases mem_fpT.1 hd with e | e | e | e | ⟨x, hx, e⟩
        · exact Or.inl (mem_fpT.2 (Or.inl e))
        · exact Or.inl (mem_fpT.2 (Or.inr (Or.inl e)))
        · exact Or.inl (mem_fpT.2 (Or.inr (Or.inr (Or.inl e))))
        · exact Or.inl (mem_fpT.2 (Or.inr (Or.inr (Or.inr (Or.inl e)))))
        · refine Or.inl (mem_fpT.2 (Or.inr (Or.inr (Or.inr (Or.inr ⟨x, ?_, e⟩)))))
          rcases List.mem_append.1 hx with e' | e' <;> simp [e']
    have HX := hid hfin
    have hmem := h.memR
    have hiv := h.iv
    have hco := curOf_outR hiv hmem
    simp only at hco
    have HI : Hid (∀ w2 q', q'.R = q.R → q'.b = q.b → Tm w2 t p c g nc ng (A ++ q' :: B) (setS T q.R.run (endS q.S o)) N → Calls Tryz.prog 28 #[PT t, .int .i64 q.R.run] w2 fun e w' => e = .returned (.bool (isCur T q.R)) ∧ Touch [] w2 w') := fun w2 q' e1 e2 m2 => by
      have := tIsCur_at m2 hN
      rw [e1, hcu] at this
      exact this
    have HD : Hid (∀ w2 q' w3, q'.R = q.R → Tm w2 t p c g nc ng (A ++ q' :: B) (setS T q.R.run (endS q.S o)) N → Touch [] w2 w3 → w3.cell? ⟨t, 2, none⟩ = some (.map (some p)) ∧ ∃ ob, (∀ ty, (Builtin.delete_ #[45, 3] ty #[.map (some p), .int .i64 q.R.run]).run Tryz.prog w3 = .ok (.tuple #[]) (setBlock w3 p ob)) ∧ Touch [p] w3 (setBlock w3 p ob) ∧ MapK KI (setBlock w3 p ob) p (A ++ B).length (kdel (ptr (A ++ q' :: B)) q.R.run)) := fun w2 q' w3 e1 m2 t3 => by
      obtain ⟨ob, r1, r2, r3⟩ := (m2.keep0 t3).delP hN 0
      rw [e1] at r1 r3
      exact ⟨(m2.keep0 t3).cs.c2, ob, fun ty => r1, r2, r3⟩
    have HV : Hid (∀ w2 v w3 W4 W5, Tv W.heap.size w2 v (endL q.S o) o → Touch [] w2 w3 → Touch [p] w3 W4 → Touch [c] W4 W5 → Tv w.heap.size W5 v (endL q.S o) o) := fun w2 v w3 W4 W5 v2 t3 t4 t5 =>
      ((((v2.keep0 t3).keep t4 (fun k hk => Or.inl (by simp only [List.mem_singleton] at hk; omega))).keep t5 (fun k hk => Or.inl (by simp only [List.mem_singleton] at hk; omega)))).low hz0
    rw [hz] at HE
    rw [hz, if_pos rfl, show decide ((0 : Int) = 0) = true from rfl, Bool.true_and]
    have nt2 := h.tne.2.1
    have nt1 := h.tne.1
    have hpc := h.pc
    cases hc : isCur T q.R with
    | false =>
      rw [hc] at HI
      have HM : Hid (∀ w2 q' w3 W4, q'.R = q.R → Tm w2 t p c g nc ng (A ++ q' :: B) (setS T q.R.run (endS q.S o)) N → Touch [] w2 w3 → Touch [p] w3 W4 → MapK KC W4 c nc (curV (outR T q.R.run)) ∧ nc ≤ N) := fun w2 q' w3 W4 e1 m2 t3 t4 => by
        refine ⟨((m2.keep0 t3).cm.keep t4 (by simp; exact Ne.symm m2.pc)).congr (fun k _ => ?_), m2.lc⟩
        unfold curV
        rw [curOf_setS, hco k, hc, if_neg (by simp)]
      clear h h1 hF hb hfin hcu hco hmem hiv hc hz t0 hFe hL
      unfold PT ov at *
      go_enter Tryz.func21, Tryz.ntmps21
      go_upto_region 1 with fail
      rw [← hW]
      clear hW
      go_wp2_with (first
        | (go_at_call 42; refine HR.out.mono ?_; rintro e w2 ⟨rfl, rfl⟩)
        | (go_at_call 56; refine HE.out.mono ?_; rintro e w2 ⟨v, rfl, v2, r2⟩; obtain ⟨q', e1, e2, m2, tf⟩ := HP.out _ r2; have V2 := hid v2; have M2 := hid m2; have TF := hid tf; clear r2 v2 m2 tf x0 x1 x2 x3)
        | (go_at_call 28; refine (HI.out _ _ e1 e2 M2.out).mono ?_; rintro e w3 ⟨rfl, t3⟩; have T3 := hid t3; obtain ⟨c2, ob, dl, t4, m4⟩ := HD.out _ _ _ e1 M2.out t3; have T4 := hid t4; have M4 := hid m4; clear t3 t4 m4))
      obtain ⟨m5, h5⟩ := HM.out _ _ _ _ e1 M2.out T3.out T4.out
      exact bodyPost_ret (v := .tuple #[v, .bool false, .int .i64 0]) (by simp [results, Tryz.results21, go_sem]) rfl ⟨v, rfl, HV.out _ _ _ _ _ V2.out T3.out T4.out (Touch.refl _ _), HX.out _ _ _ _ _ _ e1 M2.out TF.out T3.out T4.out M4.out (Touch.refl _ _) m5 h5⟩
    | true =>
      rw [hc] at HI
      have hok := hiv.ok _ hmem
      have HM : Hid (∀ w2 q' w3 W4, q'.R = q.R → q'.b = q.b → Tm w2 t p c g nc ng (A ++ q' :: B) (setS T q.R.run (endS q.S o)) N → Touch [] w2 w3 → Touch [p] w3 W4 → ∀ w5, Touch [] W4 w5 → w5.cell? ⟨t, 3, none⟩ = some (.map (some c)) ∧ (Calls Tryz.prog 46 #[PT q.b] w5 fun e w' => e = .returned (rv q.R) ∧ Touch [] w5 w') ∧ ∃ ob, (∀ ty, (Builtin.delete_ #[46, 34] ty #[.map (some c), .agg #[.int .u16 q.R.sp, .string q.R.nm]]).run Tryz.prog w5 = .ok (.tuple #[]) (setBlock w5 c ob)) ∧ Touch [c] W4 (setBlock w5 c ob) ∧ ∃ nc5, nc5 ≤ N ∧ MapK KC (setBlock w5 c ob) c nc5 (curV (outR T q.R.run))) := fun w2 q' w3 W4 e1 e2 m2 t3 t4 w5 t5 => by
        have mm := m2.keep0 t3
        have tp : Touch [p] w3 w5 := t4.trans t5 (fun _ e => by cases e)
        refine ⟨cell_at (tp.keep mm.bl (by simp; exact nt1)) rfl, ?_, ?_⟩
        · have := run8 w5 q'.b N q'.F q'.R q'.S ((mm.recs q' (by simp)).keep tp (fun d hd e => by simp only [List.mem_singleton] at e; exact (mm.far q' (by simp) d hd).2.1 e))
          rw [e1, e2] at this
          exact this
        · obtain ⟨ob, r1, r2⟩ := (mm.cm.keep tp (by simp; exact Ne.symm hpc)).del (t := 46) Tryz.underlying46 hok 0
          refine ⟨ob, fun ty => r1, (t5.mono (fun _ e => by cases e)).trans (touch_setBlock (Touch.refl [c] _) (Or.inl (by simp)) ob) (fun i hi => Or.inl hi), _, ?_, r2.congr (fun k _ => ?_)⟩
          · have := m2.lc
            split <;> omega
          · unfold kdel curV
            rw [curOf_setS, hco k, hc]
            by_cases ek : k = kOf q.R
            · rw [if_pos ek, if_pos ⟨rfl, ek⟩]; rfl
            · rw [if_neg ek, if_neg (fun e => ek e.2)]
      clear h h1 hF hb hfin hcu hco hmem hiv hc hz t0 hFe hL hok
      unfold PT ov at *
      unfold rv at HM
      go_enter Tryz.func21, Tryz.ntmps21
      go_upto_region 1 with fail
      rw [← hW]
      clear hW
      go_wp2_with (first
        | (go_at_call 42; refine HR.out.mono ?_; rintro e w2 ⟨rfl, rfl⟩)
        | (go_at_call 56; refine HE.out.mono ?_; rintro e w2 ⟨v, rfl, v2, r2⟩; obtain ⟨q', e1, e2, m2, tf⟩ := HP.out _ r2; have V2 := hid v2; have M2 := hid m2; have TF := hid tf; clear r2 v2 m2 tf x0 x1 x2 x3)
        | (go_at_call 28; refine (HI.out _ _ e1 e2 M2.out).mono ?_; rintro e w3 ⟨rfl, t3⟩; have T3 := hid t3; obtain ⟨c2, ob, dl, t4, m4⟩ := HD.out _ _ _ e1 M2.out t3; have T4 := hid t4; have M4 := hid m4; clear t3 t4 m4))
      have HM2 := hid (HM.out _ _ _ _ e1 e2 M2.out T3.out T4.out)
      generalize hW4 : setBlock w3 p ob = W4 at *
      have C3 : ∀ w', Touch [] W4 w' → w'.cell? ⟨t, 3, none⟩ = some (.map (some c)) := fun w' T' => (HM2.out w' T').1
      have k0 : Touch [] W4 W4.drew := (Touch.refl _ _).drew
      refine wp_region_L (S := fun w' => Touch [] W4 w') (st := 7) (by kernel_rfl) ?_
      refine wpL_takeY (i := 0) (v := (.pointer (some ⟨t, 0, none⟩))) (some 36) rfl rfl (by kernel_rfl) (by kernel_rfl) (by kernel_rfl) (by decide) (fun _ _ _ h => h) (Or.inl ⟨by rfl, fun w' hS => (by go_simp)⟩) (fun _ => k0) ?_
      try simp only [Go.Act.put, List.setIfInBounds_toArray, List.set_cons_zero, List.set_cons_succ]
      refine wpL_takeY (i := 1) (v := (.pointer (some ⟨t, 0, none⟩))) (some 37) rfl rfl (by kernel_rfl) (by kernel_rfl) (by kernel_rfl) (by decide) (fun _ _ _ h => h) (Or.inl ⟨by rfl, fun w' hS => (by go_simp)⟩) (fun _ => k0) ?_
      try simp only [Go.Act.put, List.setIfInBounds_toArray, List.set_cons_zero, List.set_cons_succ]
      refine wpL_takeY (i := 2) (v := (.pointer (some ⟨t, 3, none⟩))) (some 38) rfl rfl (by kernel_rfl) (by kernel_rfl) (by kernel_rfl) (by decide) (fun _ _ _ h => h) (Or.inl ⟨by rfl, fun w' hS => (by go_simp)⟩) (fun _ => k0) ?_
      try simp only [Go.Act.put, List.setIfInBounds_toArray, List.set_cons_zero, List.set_cons_succ]
      refine wpL_take (i := 3) (v := (.map (some c))) (some 39) rfl rfl (by kernel_rfl) (by kernel_rfl) (by kernel_rfl) (by kernel_rfl) (by kernel_rfl) (by decide) (fun _ _ _ h => h) (Or.inl ⟨by rfl, fun w' hS => (by have z0 := C3 _ hS; go_simp)⟩) k0 ?_
      try simp only [Go.Act.put, List.setIfInBounds_toArray, List.set_cons_zero, List.set_cons_succ]
      refine wpL_takeY (i := 4) (v := (.pointer (some ⟨q.b, 0, none⟩))) (some 40) rfl rfl (by kernel_rfl) (by kernel_rfl) (by kernel_rfl) (by decide) (fun _ _ _ h => h) (Or.inl ⟨by rfl, fun w' hS => (by go_simp)⟩) (fun _ => k0) ?_
      try simp only [Go.Act.put, List.setIfInBounds_toArray, List.set_cons_zero, List.set_cons_succ]
      refine wpL_ready (rs := [5]) (by kernel_rfl) (by simp) (AllL.cons (o := { dst := some 41, op := Op.call { callee := Callee.value (Operand.func 46), args := #[Operand.tmp 40], argTypes := #[97] }, type := 80, pos := _, after := #[{ on := 4, ground := Ground.data }], guard := none }) rfl (fun K' hK => ?_) AllL.nil)
      rw [if_pos (by rfl)]
      go_simp
      refine (HM2.out _ k0).2.1.mono ?_
      rintro e' w5 ⟨rfl, s5⟩
      have k5 : Touch [] W4 w5 := k0.trans' s5
      refine hK.out _ _ (fun _ => k5) ?_
      clear hK
      try simp only [Go.Act.put, List.setIfInBounds_toArray, List.set_cons_zero, List.set_cons_succ]
      obtain ⟨-, -, ob5, dl5, t5, nc5, h5, m5⟩ := HM2.out _ k5
      have dl5' := dl5 0
      refine wpL_take (i := 6) (v := (.agg #[.int .u16 q.R.sp, .string q.R.nm])) (some 42) rfl rfl (by kernel_rfl) (by kernel_rfl) (by kernel_rfl) (by kernel_rfl) (by kernel_rfl) (by decide) (fun _ _ _ h => h) (Or.inl ⟨by rfl, fun w' hS => (by have z0 := runKey w' q.R.run q.R.sp q.R.gen q.R.nm q.R.rf; go_simp)⟩) k5 ?_
      try simp only [Go.Act.put, List.setIfInBounds_toArray, List.set_cons_zero, List.set_cons_succ]
      refine wpL_ready (rs := [7]) (by kernel_rfl) (by simp) (AllL.cons (o := { dst := none, op := Op.call { callee := Callee.builtin Builtin.delete, args := #[Operand.tmp 39, Operand.tmp 42], argTypes := #[46, 34] }, type := 0, pos := _, after := #[{ on := 3, ground := Ground.data }, { on := 6, ground := Ground.data }, { on := 5, ground := Ground.chain }], guard := none }) rfl (fun K' hK => ?_) AllL.nil)
      rw [if_pos (by rfl)]
      go_simp
      refine hK.out _ _ (fun h => absurd h (by decide)) ?_
      clear hK
      try simp only [Go.Act.put, List.setIfInBounds_toArray, List.set_cons_zero, List.set_cons_succ]
      refine wpL_done (by kernel_rfl) ?_ _
      go_wp2
      exact bodyPost_ret (v := .tuple #[v, .bool true, .int .i64 0]) (by simp [results, Tryz.results21, go_sem]) rfl ⟨v, rfl, HV.out _ _ _ _ _ V2.out T3.out T4.out t5, HX.out _ _ _ _ _ _ e1 M2.out TF.out T3.out T4.out M4.out t5 m5 h5⟩
  · have es : endS q.S o = q.S := by unfold endS; rw [if_neg hz]
    have el : endL q.S o = [] := by unfold endL; rw [if_neg hz]
    have hz' : (endE q.S o != 0) = true := by simp [hz]
    rw [es] at HE
    rw [el, if_neg hz, show decide (endE q.S o = 0) = false by simp [hz], Bool.false_and]
    have HP : Hid (∀ w2, RqE W w2 q.b q.F q.R q.S N → TqE w w2 t F T N) := fun w2 e => by
      have := h1.stepE e (Nat.le_refl N) hL (hL _ h.memR)
      rw [h.self, ← hFe] at this
      exact TqE.from0 t0 this
    have HV := hid (fun w2 => Tv.nil w.heap.size w2 o)
    clear h h1 hF hb es el hz t0 hFe hL hz0 lp lc
    generalize endE q.S o = E at *
    generalize endL q.S o = L at *
    unfold PT ov at *
    go_enter Tryz.func21, Tryz.ntmps21
    go_upto_region 1 with fail
    rw [← hW]
    clear hW
    go_wp2_with (first
      | (go_at_call 42; refine HR.out.mono ?_; rintro e w2 ⟨rfl, rfl⟩)
      | (go_at_call 56; refine HE.out.mono ?_; rintro e w2 ⟨v, rfl, v2, r2⟩; have R2 := hid (HP.out _ r2); clear r2 v2 x0 x1 x2 x3))
    exact bodyPost_ret (v := .tuple #[.slice none 0 0, .bool false, .int .i64 E]) (by simp [results, Tryz.results21, go_sem]) rfl ⟨_, rfl, HV.out _, R2.out⟩
theorem endT (h : Tq w t F T N) (hN : N ≤ 3000000000000) (n : Int) (o : O) (hn : W64 n) : Calls Tryz.prog 21 #[PT t, .int .i64 n, ov o] w fun e w' => TeE e w w' t F T n o N := by
  unfold TeE tEndC tEndE tEndL tEnd
  cases hr : runOf T n with
  | none => exact (tEnd_no w t F T N h n o hn hr).mono (fun e w' hh => ⟨_, hh.1, Tv.nil _ _ _, TqE.touch h hh.2 (Nat.le_refl N)⟩)
  | some r =>
    obtain ⟨p, c, g, nc, ng, Ps, rfl, h, hL⟩ := h
    obtain ⟨A, q, B, rfl, rfl, rfl, _⟩ := h.found hr
    exact tEnd_at w t T N h hN hL o
end
end Go.Proofs.YtpihhlllembdeaaGreat
