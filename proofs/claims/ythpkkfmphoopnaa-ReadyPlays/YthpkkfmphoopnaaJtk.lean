/- The contracts of takeOut, Peek, Pick, Rest, Wake and New; no conditions but those that each states. -/
import Derived.Test.YthpkkfmphoopnaaJnx
import Derived.Test.YthpkkfmphoopnaaJdl
import Derived.Test.YthpkkfmphoopnaaAlh
import Derived.Test.YthpkkfmphoopnaaHlg
namespace Go.Proofs.Ythpkkfmphoopnaa.Re
open Go.RowKit Go.Maps Go.ChangeMaps
set_option linter.unusedVariables false
set_option linter.unusedSimpArgs false
/-- One is struck out of the map. -/
theorem Mp.out {w : World} {m : Option Nat} {l : List Int} (h : Mp w m l) (hn : l.Nodup) {i : Nat} (hi : i < l.length) (hw : W64 l[i]) : ∃ d ob, m = some d ∧ (Builtin.delete_ #[57, 3] 0 #[.map (some d), .int .i64 l[i]]).run Try.prog w = .ok (.tuple #[]) (setBlock w d ob) ∧ Mp (setBlock w d ob) m (l.eraseIdx i) := by
  rcases h with ⟨_, e⟩ | ⟨d, rfl, h⟩
  · rw [e] at hi; simp at hi
  obtain ⟨ob, hr, h2⟩ := h.del Try.underlying57 (k := l[i]) hw 0
  have hm : l[i] ∈ l := List.getElem_mem hi
  refine ⟨d, ob, rfl, hr, Or.inr ⟨d, rfl, ?_⟩⟩
  have e1 : (kmap l l[i]).isSome = true := by unfold kmap; rw [if_pos hm]; rfl
  have h3 := h2.congr (g := kmap (l.eraseIdx i)) (fun k hk => by
    unfold kdel kmap
    by_cases hk2 : k = l[i]
    · rw [if_pos hk2, hk2, if_neg (erase_idx_nodup hn hi)]
    · rw [if_neg hk2]
      by_cases hk3 : k ∈ l
      · rw [if_pos hk3, if_pos ((mem_out hn hi k).2 ⟨hk3, hk2⟩)]
      · rw [if_neg hk3, if_neg (fun q => hk3 ((mem_out hn hi k).1 q).1)])
  rw [e1, if_pos rfl] at h3
  rw [List.length_eraseIdx_of_lt hi]
  exact h3
/-- The first of a row is left out. -/
theorem ow_tail {w : World} {B : Nat} {g off c : Nat} {xs : List Int} (h : Ow w B (.slice (some ⟨g, off, none⟩) xs.length c) xs) (hp : 0 < xs.length) : Ow w B (.slice (some ⟨g, if c = 1 then off else off + 1, none⟩) (xs.length - 1) (c - 1)) (xs.eraseIdx 0) := by
  rcases h with ⟨e, _⟩ | ⟨g', off', c', cur, e, hBg, hg, hn, hmx, hs, hc⟩
  · cases e
  cases e
  have e3 : (xs.eraseIdx 0).length = xs.length - 1 := List.length_eraseIdx_of_lt hp
  refine Or.inr ⟨g, _, c - 1, cur, by rw [e3], hBg, hg, by omega, by omega, by split <;> omega, fun j r hj => ?_⟩
  have hj' := (List.getElem?_eq_some_iff.1 hj).1
  rw [if_neg (by omega)]
  rw [show off + 1 + j = off + (j + 1) by omega]
  refine hc (j + 1) r ?_
  cases xs with
  | nil => simp at hp
  | cons a l => simpa using hj
section
variable {w : World} {b N : Nat} {v u t : Value} {m : Option Nat} {S : Rz}
def TkE (e : Ending) (w w' : World) (b : Nat) (v u : Value) (m : Option Nat) (t : Value) (S : Rz) (i : Nat) : Prop := e = .returned (.tuple #[]) ∧ ∃ u', Rm w' b v u' m t (outS S i) ∧ Touch (fpR b v u m t) w w' ∧ u'.ownBlock = u.ownBlock
/-- The line's new row is put into its place. -/
theorem take_fin (h : Rm w b v u m t S) {W1 W2 : World} {d : Nat} {ob : Obj} {u' : Value} {i : Nat} (hd : m = some d) (hW1 : Touch [d] w W1) (hm1 : Mp W1 m (S.ln.eraseIdx i)) (hu : Ow W2 0 u' (S.ln.eraseIdx i)) (h2 : Touch u.ownBlock.toList W1 W2) (hub : u'.ownBlock = u.ownBlock) : TkE (.returned (.tuple #[])) w (W2.setCell ⟨b, 3, none⟩ u') b v u m t S i := by
  have hbm := h.mb
  have hvm := ow_nm h.pk h.mp
  have hum := ow_nm h.ln h.mp
  have htm := ow_nm h.tl h.mp
  have hub' := h.ub
  have hb1 := hW1.keep h.hb (by intro e; simp only [List.mem_singleton] at e; rw [e] at hbm; exact hbm hd)
  have hb2 := h2.keep hb1 (by intro e; simp at e; exact hub' e)
  have T3 : Touch [b] W2 (W2.setCell ⟨b, 3, none⟩ u') := (Touch.refl _ _).setCell (Or.inl (by simp)) _
  have k1 : ∀ x xs, Ow w 0 x xs → (∀ q, x.ownBlock = some q → m ≠ some q) → (∀ q, x.ownBlock = some q → u.ownBlock ≠ some q) → x.ownBlock ≠ some b → Ow (W2.setCell ⟨b, 3, none⟩ u') 0 x xs := fun x xs hx a1 a2 a3 => by
    refine ((hx.keep hW1 ?_).keep h2 ?_).keep T3 ?_
    · intro q hq e; simp only [List.mem_singleton] at e; rw [e] at hq; exact a1 d hq hd
    · intro q hq e; simp at e; exact a2 q hq e
    · intro q hq e; simp only [List.mem_singleton] at e; rw [e] at hq; exact a3 hq
  refine ⟨rfl, u', ⟨?_, k1 v _ h.pk hvm h.vu h.vb, hu.keep T3 ?_, (hm1.keep h2 ?_).keep T3 ?_, k1 t _ h.tl htm (fun q hq e => h.ut q e hq) h.tb, fun q hq => by rw [hub]; exact h.vu q hq, h.vt, fun q hq => h.ut q (by rw [← hub]; exact hq)⟩, ?_, hub⟩
  · have := bset (i := 3) hb2 u'
    simpa [rc, outS] using this
  · intro q hq e; simp only [List.mem_singleton] at e; rw [e, hub] at hq; exact hub' hq
  · intro q hq e; simp at e; exact hum q e hq
  · intro q hq e; simp only [List.mem_singleton] at e; rw [e] at hq; exact hbm hq
  · refine ((hW1.mono ?_).trans h2 ?_).trans T3 ?_
    · intro q hq; simp only [List.mem_singleton] at hq; rw [hq]; exact mem_fpR.2 (Or.inr (Or.inr (Or.inr (Or.inl hd))))
    · intro q hq; exact Or.inl (mem_fpR.2 (Or.inr (Or.inr (Or.inl (by simpa using hq)))))
    · intro q hq; exact Or.inl (mem_fpR.2 (Or.inl (by simpa using hq)))
set_option maxHeartbeats 2000000 in
theorem take_ (h : Rm w b v u m t S) (hv : Iv S N) (i : Nat) (hi : i < S.ln.length) : Calls Try.prog 29 #[PT b, .int .i64 (i : Int)] w fun e w' => TkE e w w' b v u m t S i := by
  obtain ⟨d, ob, hmd, hdel, hM⟩ := (h.mp.keep ((Touch.refl [] w).drew) (fun _ _ e => by cases e)).out hv.nd hi (hv.l2 _ (List.getElem_mem hi))
  have hum := ow_nm h.ln h.mp
  have hbm := h.mb
  obtain ⟨W1, hW1⟩ : ∃ W1, W1 = setBlock w.drew d ob := ⟨_, rfl⟩
  have T1 : Touch [d] w W1 := by rw [hW1]; exact touch_setBlock ((Touch.refl _ _).drew) (Or.inl (by simp)) ob
  rw [← hW1] at hM
  have hne : d ≠ b := fun e => hbm (by rw [← e]; exact hmd)
  have hb1 := T1.keep h.hb (by intro e; simp only [List.mem_singleton] at e; exact hne e.symm)
  have hu1 : Ow W1 0 u S.ln := h.ln.keep T1 (by intro q hq e; simp only [List.mem_singleton] at e; rw [e] at hq; exact hum d hq hmd)
  have HF : Hid (∀ W2 u', Ow W2 0 u' (S.ln.eraseIdx i) → Touch u.ownBlock.toList W1 W2 → u'.ownBlock = u.ownBlock → TkE (.returned (.tuple #[])) w (W2.setCell ⟨b, 3, none⟩ u') b v u m t S i) := hid (fun W2 u' a1 a2 a3 => take_fin (ob := ob) h hmd T1 hM a1 a2 a3)
  have HD := hid (del_ W1 0 u S.ln i hi hu1)
  have HT : Hid (∀ g off c, u = .slice (some ⟨g, off, none⟩) S.ln.length c → Ow W1 0 (.slice (some ⟨g, if c = 1 then off else off + 1, none⟩) (S.ln.length - 1) (c - 1)) (S.ln.eraseIdx 0)) := hid (fun g off c e => ow_tail (e ▸ hu1) (by omega))
  have HB : Hid (∀ W2, Touch u.ownBlock.toList W1 W2 → W2.heap[b]? = some (.cells (rc S v u m t) 59 (0, 0))) := hid (fun W2 T => T.keep hb1 (by intro e; simp at e; exact h.ub e))
  obtain ⟨a, c, e0, hnc, hcm⟩ := h.ln.form
  subst e0
  obtain ⟨g, off, e1, _, y1⟩ := h.ln.ra.cell hi
  subst e1
  subst hmd
  have c3 := cell_at (j := 3) (v := .slice (some ⟨g, off, none⟩) S.ln.length c) h.hb rfl
  have c4 := cell_at (j := 4) (v := .map (some d)) h.hb rfl
  have l1 := hv.l1
  have d3 := cell_at (j := 3) (v := .slice (some ⟨g, off, none⟩) S.ln.length c) hb1 rfl
  have df := froz_at hb1
  generalize S.ln[i] = x at *
  generalize S.ln.length = n at *
  have zi : (i : Int) < (n : Int) := by omega
  have z0 : (0 : Int) ≤ (i : Int) := by omega
  clear h hv hu1 hb1 hum hbm hM T1 hne
  unfold PT
  rcases Nat.eq_zero_or_pos i with e | e
  · subst e
    have HT2 := hid (HT.out g off c rfl)
    have hq : (1 : Int) ≤ (n : Int) := by omega
    have HFin := hid (HF.out W1 _ HT2.out (Touch.refl _ _) rfl)
    clear HT HF HD HB HT2 zi z0 l1
    rw [Nat.add_zero] at y1
    have hz : ((n : Int) - 1).toNat = n - 1 := by omega
    have hz2 : ((c : Int) - 1).toNat = c - 1 := by omega
    have HC : Hid (1 ≤ c ∧ 1 ≤ n) := by exact ⟨by omega, by omega⟩
    have zc : (1 : Int) ≤ (c : Int) := by omega
    by_cases hc1 : c = 1
    · subst hc1
      have hn1 : n = 1 := by omega
      subst hn1
      rw [if_pos rfl] at HFin
      simp only [Nat.sub_self] at HFin
      go_enter Try.func29, Try.ntmps29
      go_upto_region 0 with fail
      go_region
      rw [← hW1]
      clear hW1 c3 c4 y1
      go_wp2
      exact bodyPost_ret (v := .tuple #[]) (by simp [results, Try.results29, go_sem]) rfl HFin.out
    · rw [if_neg hc1] at HFin
      go_enter Try.func29, Try.ntmps29
      go_upto_region 0 with fail
      go_region
      rw [← hW1]
      clear hW1 c3 c4 y1
      go_wp2
      exact bodyPost_ret (v := .tuple #[]) (by simp [results, Try.results29, go_sem]) rfl HFin.out
  · have zp : ((i : Int) == 0) = false := by simp; omega
    have hw : IntKind.i64.wrap ((i : Int) + 1) = (i : Int) + 1 := by simp [IntKind.wrap, IntKind.bits, IntKind.signed, IntKind.min, IntKind.max]; omega
    clear HT l1 e
    go_enter Try.func29, Try.ntmps29
    go_upto_region 0 with fail
    go_region
    rw [← hW1]
    clear hW1 c3 c4 y1
    go_wp2_with (go_at_call 37; refine HD.out.mono ?_; rintro e W2 ⟨a2, c2, rfl, q1, q2, q3⟩; have HFin := hid (HF.out W2 _ q1 q2 q3); have hb2 := HB.out W2 q2; have x3 := cell_at (j := 3) hb2 rfl; have xf := froz_at hb2; clear q1 q2 q3 hb2)
    go_end0
    exact HFin.out
theorem place_at (hv : Iv S N) (hne : S.ln ≠ []) : pickV S = S.ln[(placeS S).1]'(place_lt hne) := by
  unfold pickV
  rw [if_neg hne]
  simp [List.getD_eq_getElem?_getD, place_lt hne]
theorem some_no (h : S.ln = []) : someB S = false ∧ pickV S = 0 ∧ pickS S = S := by
  unfold someB pickV pickS
  simp [h]
theorem some_yes (h : S.ln ≠ []) : someB S = true := by
  unfold someB
  simp [h]
set_option maxHeartbeats 2000000 in
theorem peek_ (h : Rm w b v u m t S) (hv : Iv S N) (hN : N ≤ 17592186044416) : Calls Try.prog 25 #[PT b] w fun e w' => e = .returned (.tuple #[.int .i64 (pickV S), .bool (someB S)]) ∧ Touch [] w w' := by
  have HL := hid (len_ h)
  have l1 := hv.l1
  by_cases hne : S.ln = []
  · obtain ⟨e1, e2, e3⟩ := some_no hne
    rw [e1, e2]
    rw [hne] at HL
    clear h hv e1 e2 e3 hne l1
    unfold PT at *
    go_enter Try.func25, Try.ntmps25
    go_wp2_with (go_at_call 26; refine HL.out.mono ?_; rintro e w1 ⟨rfl, e1⟩; rw [e1]; clear e1 w1)
    exact bodyPost_ret (v := .tuple #[.int .i64 0, .bool false]) (by simp [results, Try.results25, go_sem]) rfl ⟨rfl, Touch.refl _ _⟩
  · rw [some_yes hne, place_at hv hne]
    have hp := place_lt hne
    have HX := hid (next_ h hv hN hne)
    have HC : Hid (∀ w', Touch [] w w' → ∃ g off c, u = .slice (some ⟨g, off, none⟩) S.ln.length c ∧ w'.cell? ⟨b, 3, none⟩ = some u ∧ w'.cell? ⟨g, off + (placeS S).1, none⟩ = some (.int .i64 (S.ln[(placeS S).1]'(place_lt hne)))) := hid (fun w' T => by
      have h1 := h.keep0 T
      obtain ⟨a, c, e0, _⟩ := h1.ln.form
      subst e0
      obtain ⟨g, off, e1, _, y⟩ := h1.ln.ra.cell hp
      subst e1
      exact ⟨g, off, c, rfl, cell_at (j := 3) h1.hb rfl, y⟩)
    have hz : ((S.ln.length : Int) == 0) = false := by simp; exact hne
    generalize S.ln[(placeS S).1]'(place_lt hne) = x at *
    generalize (placeS S).1 = i at *
    generalize S.ln.length = n at *
    have zi : (i : Int) < (n : Int) := by omega
    clear h hv l1 hp hne
    unfold PT at *
    go_enter Try.func25, Try.ntmps25
    go_wp2_with (first
      | (go_at_call 26; refine HL.out.mono ?_; rintro e w1 ⟨rfl, e1⟩; rw [e1]; clear e1 w1)
      | (go_at_call 28; refine HX.out.mono ?_; rintro e w1 ⟨rfl, t1⟩; obtain ⟨g, off, c, rfl, y1, y2⟩ := HC.out _ t1; have T1 := hid t1; clear t1))
    exact bodyPost_ret (v := .tuple #[.int .i64 x, .bool true]) (by simp [results, Try.results25, go_sem]) rfl ⟨rfl, T1.out⟩
theorem Rm.setSt (h : Rm w b v u m t S) (s : Nat) : Rm (w.setCell ⟨b, 1, none⟩ (.int .u64 (s : Int))) b v u m t { S with st := s } ∧ Touch [b] w (w.setCell ⟨b, 1, none⟩ (.int .u64 (s : Int))) := by
  have T : Touch [b] w (w.setCell ⟨b, 1, none⟩ (.int .u64 (s : Int))) := (Touch.refl _ _).setCell (Or.inl (by simp)) _
  have hn : ∀ x : Option Nat, x ≠ some b → ∀ q, x = some q → ¬ q ∈ [b] := fun x hx q hq e => by simp only [List.mem_singleton] at e; rw [e] at hq; exact hx hq
  refine ⟨⟨?_, h.pk.keep T (hn _ h.vb), h.ln.keep T (hn _ h.ub), h.mp.keep T (hn _ h.mb), h.tl.keep T (hn _ h.tb), h.vu, h.vt, h.ut⟩, T⟩
  have := bset (i := 1) h.hb (.int .u64 (s : Int))
  simpa [rc] using this
/-- A place more is told. -/
theorem Rm.setTl (h : Rm w b v u m t S) {W5 : World} {t5 : Value} {x : Int} {ob : Obj} (h5 : Ow W5 0 t5 (S.tl ++ [x])) (T5 : Touch t.ownBlock.toList (w.alloc ob) W5) (e5 : t5.ownBlock = t.ownBlock ∨ t5.ownBlock = some (w.alloc ob).heap.size) :
    W5.heap[b]? = some (.cells (rc S v u m t) 59 (0, 0)) ∧ Rm (W5.setCell ⟨b, 5, none⟩ t5) b v u m t5 { S with tl := S.tl ++ [x] } ∧ Touch (fpR b v u m t) w (W5.setCell ⟨b, 5, none⟩ t5) ∧ Nf w (fpR b v u m t) (fpR b v u m t5) := by
  have hsz : (w.alloc ob).heap.size = w.heap.size + 1 := by simp
  have ha := h.keep0 ((Touch.refl [] w).alloc ob)
  have hall := h.all
  have TB : Touch [b] W5 (W5.setCell ⟨b, 5, none⟩ t5) := (Touch.refl _ _).setCell (Or.inl (by simp)) _
  have hb5 := T5.keep ha.hb (by intro e; simp at e; exact h.tb e)
  have ne5 : ∀ q, t5.ownBlock = some q → t.ownBlock = some q ∨ w.heap.size < q := fun q hq => by
    rcases e5 with e | e
    · exact Or.inl (by rw [← e]; exact hq)
    · rw [e, hsz] at hq; cases hq; exact Or.inr (by omega)
  have n5 : ∀ q, q ∈ fpR b v u m t → t.ownBlock ≠ some q → t5.ownBlock ≠ some q := fun q hq hn e => by
    rcases ne5 q e with r | r
    · exact hn r
    · have := hall q hq; omega
  have b5 : t5.ownBlock ≠ some b := n5 b (mem_fpR.2 (Or.inl rfl)) h.tb
  have k1 : ∀ x xs, Ow (w.alloc ob) 0 x xs → (∀ q, x.ownBlock = some q → t.ownBlock ≠ some q) → x.ownBlock ≠ some b → Ow (W5.setCell ⟨b, 5, none⟩ t5) 0 x xs := fun x xs hx a1 a2 => by
    refine (hx.keep T5 ?_).keep TB ?_
    · intro q hq e; simp at e; exact a1 q hq e
    · intro q hq e; simp only [List.mem_singleton] at e; rw [e] at hq; exact a2 hq
  refine ⟨hb5, ⟨?_, k1 v _ ha.pk h.vt h.vb, k1 u _ ha.ln h.ut h.ub, (ha.mp.keep T5 ?_).keep TB ?_, h5.keep TB ?_, h.vu, fun q hq => n5 q (mem_fpR.2 (Or.inr (Or.inl hq))) (h.vt q hq), fun q hq => n5 q (mem_fpR.2 (Or.inr (Or.inr (Or.inl hq)))) (h.ut q hq)⟩, ?_, fun q hq => ?_⟩
  · have := bset (i := 5) hb5 t5
    simpa [rc] using this
  · intro q hq e; simp at e; exact ow_nm h.tl h.mp q e hq
  · intro q hq e; simp only [List.mem_singleton] at e; rw [e] at hq; exact h.mb hq
  · intro q hq e; simp only [List.mem_singleton] at e; rw [e] at hq; exact b5 hq
  · refine (((Touch.refl _ _).alloc ob).trans T5 ?_).trans TB ?_
    · intro q hq; exact Or.inl (mem_fpR.2 (Or.inr (Or.inr (Or.inr (Or.inr (by simpa using hq))))))
    · intro q hq; exact Or.inl (mem_fpR.2 (Or.inl (by simpa using hq)))
  · rcases mem_fpR.1 hq with e | e | e | e | e
    · exact Or.inl (mem_fpR.2 (Or.inl e))
    · exact Or.inl (mem_fpR.2 (Or.inr (Or.inl e)))
    · exact Or.inl (mem_fpR.2 (Or.inr (Or.inr (Or.inl e))))
    · exact Or.inl (mem_fpR.2 (Or.inr (Or.inr (Or.inr (Or.inl e)))))
    · rcases ne5 q e with r | r
      · exact Or.inl (mem_fpR.2 (Or.inr (Or.inr (Or.inr (Or.inr r)))))
      · exact Or.inr (by omega)
end
end Go.Proofs.Ythpkkfmphoopnaa.Re
