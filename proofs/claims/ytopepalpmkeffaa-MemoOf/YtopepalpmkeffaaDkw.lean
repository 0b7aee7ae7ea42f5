/- The walk of the document's Keep; there are at most sixty-six thousand entries, whose keys are unlike. -/
import Derived.Test.YtopepalpmkeffaaDkp
import Derived.Deep.CutRange
import Derived.Deep.CutBlock
namespace Go.Proofs.Ytopepalpmkeffaa
open Go.RowKit Go.Sort Go.Maps Go.ChangeMaps Go.WideMaps
set_option linter.unusedVariables false
set_option linter.unusedSimpArgs false
def rbx (x : En) : Obj := .cells #[.int .u16 x.1.1, .string x.1.2, .int .i64 x.2.1.1, .int .i64 x.2.1.2.1, .int .i64 x.2.1.2.2.1, .int .i64 x.2.1.2.2.2, .int .i64 x.2.2] 62
structure R7 (w : World) (r : Nat) (x : En) : Prop where
  c0 : w.cell? ⟨r, 0, none⟩ = some (.int .u16 x.1.1)
  c1 : w.cell? ⟨r, 1, none⟩ = some (.string x.1.2)
  c2 : w.cell? ⟨r, 2, none⟩ = some (.int .i64 x.2.1.1)
  c3 : w.cell? ⟨r, 3, none⟩ = some (.int .i64 x.2.1.2.1)
  c4 : w.cell? ⟨r, 4, none⟩ = some (.int .i64 x.2.1.2.2.1)
  c5 : w.cell? ⟨r, 5, none⟩ = some (.int .i64 x.2.1.2.2.2)
  c6 : w.cell? ⟨r, 6, none⟩ = some (.int .i64 x.2.2)
theorem R7.mk' {w : World} {r : Nat} {x : En} (hh : w.heap[r]? = some (rbx x)) : R7 w r x := by
  unfold rbx at hh
  constructor <;> simp [World.cell?, hh]
structure KwV (w : World) (c : Cf) (x : En) (V : World) : Prop where
  t : Touch [] w V
  hC : V.heap[w.heap.size]? = some (cbx c 31)
  hX : V.heap[w.heap.size + 1]? = some (rbx x)
theorem KwV.mk' (w : World) (c : Cf) (x : En) : KwV w c x ((w.alloc (cbx c 31)).alloc (rbx x)) :=
  ⟨((Touch.refl _ _).alloc _).alloc _, (Below.heap_alloc _ _ _ (by simp)).trans (heap_alloc_new w _), by
    have := heap_alloc_new (w.alloc (cbx c 31)) (rbx x)
    rwa [World.size_alloc] at this⟩
def rnv (x : En) : Value := .agg #[.int .u16 x.1.1, .string x.1.2, .int .i64 x.2.1.1, .int .i64 x.2.1.2.1, .int .i64 x.2.1.2.2.1, .int .i64 x.2.1.2.2.2, .int .i64 x.2.2]
set_option maxHeartbeats 1000000 in
theorem rkeep60_not (w : World) (c : Cf) (v : Value) (xs : List En) (x : En) (h : RN 62 w v xs) (hr : right x.2.1 = true) (hk : keepsC c x.2.1 = false) :
    Calls Try.prog 60 #[cv c, v, rnv x] w fun e w' => e = .returned (.tuple #[v, .bool false, .slice none 0 0]) ∧ Touch [] w w' := by
  obtain ⟨V, hV⟩ : ∃ V, V = (w.alloc (cbx c 31)).alloc (rbx x) := ⟨_, rfl⟩
  have KV : KwV w c x V := by rw [hV]; exact KwV.mk' w c x
  have TV := hid KV.t
  have HK := hid (rkeeps44 V c x.2.1 hr)
  rw [hk] at HK
  obtain ⟨c0, c1, c2, c3, c4, c5, c6⟩ := C7.mk' KV.hC
  obtain ⟨r0, r1, r2, r3, r4, r5, r6⟩ := R7.mk' KV.hX
  obtain ⟨a, cp, rfl, _⟩ := h
  clear KV hr hk
  unfold cv ov at HK
  unfold cv rnv
  go_enter Try.func60, Try.ntmps60
  go_upto_region 1 with fail
  unfold cbx rbx at hV
  rw [← hV]
  clear hV
  go_wp2_with (go_at_call 44; refine HK.out.mono ?_; rintro e w2 ⟨rfl, t2⟩; have T2 := hid t2; clear t2)
  exact bodyPost_ret (v := .tuple #[.slice a xs.length cp, .bool false, .slice none 0 0]) (by simp [results, Try.results60, go_sem]) rfl ⟨rfl, TV.out.trans' T2.out⟩
theorem putL_tail {e : Nat} {xs : List En} {k : K} {v : V} (h : (putY xs k v).length ≤ e) : putL (e : Int) xs k v = putY xs k v ∧ goneL (e : Int) xs k = [] := by
  have hb : useB (e : Int) (keysL xs) k = false := by
    unfold useB
    rw [← putY_keys xs k v, keysL_len]
    simp only [decide_eq_false_iff_not]
    omega
  unfold putL goneL
  rw [hb]
  exact ⟨rfl, rfl⟩
theorem putL_head {e : Nat} {xs : List En} {k : K} {v : V} {y : En} {zs : List En} (h : e < (putY xs k v).length) (hy : putY xs k v = y :: zs) : putL (e : Int) xs k v = zs ∧ goneL (e : Int) xs k = [y.1] := by
  have hb : useB (e : Int) (keysL xs) k = true := by
    unfold useB
    rw [← putY_keys xs k v, keysL_len]
    simp only [decide_eq_true_eq]
    omega
  unfold putL goneL useG
  rw [hb, ← putY_keys xs k v, hy]
  exact ⟨rfl, rfl⟩
theorem own_kin {w : World} {base e n k : Nat} {v : Value} {xs : List Value} (h : w.ownsRow base e k v n xs) {b : Nat} (hb : v.ownBlock = some b) : ∃ cs, w.heap[b]? = some (.cells cs e (0, 0)) := by
  obtain ⟨h1, h2 | ⟨g, cap, cur, rfl, hg, hc, hn, r⟩⟩ := h
  · rw [h2.1] at hb
    cases hb
  · simp only [Value.ownBlock, Option.some.injEq] at hb
    subst hb
    exact ⟨cur, hc⟩
theorem info57 : (Try.prog.info? 57).map (fun i => (i.zero, i.size, i.bytes)) = some (some (.agg #[.int .u16 0, .string ⟨#[]⟩]), 2, 24) := by kernel_rfl
def KwQ (w : World) (e : Nat) (xs : List En) (x : En) (v1 v2 : Value) (w' : World) : Prop := RN 62 w' v1 (putL (e : Int) xs x.1 x.2) ∧ RT 57 w' v2 (goneL (e : Int) xs x.1) ∧ Touch [] w w'
set_option maxHeartbeats 8000000 in
set_option maxRecDepth 100000 in
theorem rkeep60_yes (w : World) (c : Cf) (v : Value) (xs : List En) (x : En) (e : Nat) (he : c.e = (e : Int)) (hel : e ≤ 65536) (hxl : xs.length ≤ e) (h : RN 62 w v xs) (hd : (keysL xs).Nodup) (hr : right x.2.1 = true) (hk : keepsC c x.2.1 = true) :
    Calls Try.prog 60 #[cv c, v, rnv x] w fun z w' => ∃ v1 v2, z = .returned (.tuple #[v1, .bool true, v2]) ∧ KwQ w e xs x v1 v2 w' := by
  obtain ⟨i3, hf, hz0, hz1, hz2⟩ := info_parts info62
  obtain ⟨V, hV⟩ : ∃ V, V = (w.alloc (cbx c 31)).alloc (rbx x) := ⟨_, rfl⟩
  have KV : KwV w c x V := by rw [hV]; exact KwV.mk' w c x
  have TV := hid KV.t
  have HK := hid (rkeeps44 V c x.2.1 hr)
  rw [hk] at HK
  have HF : Hid (∀ w2, Touch [] V w2 → Calls Try.prog 31 #[v, kv x.1] w2 fun z w' => z = .returned (.int .i64 (pos xs x.1)) ∧ Touch [] w2 w') := fun w2 t => find31 w2 v xs x.1 (by omega) (h.keep (KV.t.trans' t))
  have HXB : Hid (∀ w', Touch [] V w' → R7 w' (w.heap.size + 1) x) := fun w' t => R7.mk' (t.keep KV.hX (by simp))
  have HCB : Hid (∀ w', Touch [] V w' → w'.cell? ⟨w.heap.size, 3, none⟩ = some (.int .i64 (e : Int))) := fun w' t => by
    have := (C7.mk' (t.keep KV.hC (by simp))).c3
    rw [he] at this
    exact this
  have HR := hid h
  have HEe := hid he
  obtain ⟨c0, c1, c2, c3, c4, c5, c6⟩ := C7.mk' KV.hC
  obtain ⟨r0, r1, r2, r3, r4, r5, r6⟩ := R7.mk' KV.hX
  obtain ⟨a, cp, rfl, _⟩ := h
  clear KV hr hk he
  unfold cv ov at HK
  unfold kv at HF
  unfold cv rnv
  by_cases hm : x.1 ∈ keysL xs
  · obtain ⟨i, hi, h1, h2, h3⟩ := pos_yes hm
    rw [h3] at HF
    have HWo : Hid (∀ w2, Touch [] V w2 → Calls Try.prog 33 #[.slice a xs.length cp, .int .i64 (i : Int)] w2 fun e w' => ∃ v', e = .returned v' ∧ RN 62 w' v' (drx xs x.1) ∧ Touch [] w2 w') := hid (fun w2 t => (without33 w2 _ xs i hi (by omega) (HR.out.keep (TV.out.trans' t))).mono (by
      rintro z w' ⟨v', rfl, o, t⟩
      refine ⟨v', rfl, RN.own (base := w2.heap.size) ?_, t⟩
      rw [← erase_drx hi h1 hd, List.length_eraseIdx_of_lt hi]
      exact o))
    have HYL2 : Hid ((drx xs x.1).length ≤ e) := hid (by have := drx_le xs x.1; omega)
    have hyl : (drx xs x.1).length ≤ 65536 := by have := drx_le xs x.1; omega
    have zi : (0 : Int) ≤ (i : Int) := by omega
    clear h1 h2 h3 hm hi HR
    obtain ⟨ys, hys⟩ : ∃ ys, ys = drx xs x.1 := ⟨_, rfl⟩
    rw [← hys] at HWo hyl HYL2
    have HYS := hid hys
    clear hys
    go_enter Try.func60, Try.ntmps60
    go_upto_region 1 with fail
    unfold cbx rbx at hV
    rw [← hV]
    clear hV
    go_upto_region 6 with (first
      | (go_at_call 44; refine HK.out.mono ?_; rintro z w2 ⟨rfl, t2⟩; have T2 := hid t2; clear r0 r1 r2 r3 r4 r5 r6; obtain ⟨r0, r1, r2, r3, r4, r5, r6⟩ := HXB.out _ t2; clear t2)
      | (go_at_call 31; refine (HF.out _ T2.out).mono ?_; rintro z w3 ⟨rfl, t3⟩; have T3 := hid (T2.out.trans' t3); clear t3)
      | (go_at_call 33; refine (HWo.out _ T3.out).mono ?_; rintro z W ⟨v1, rfl, hrn, t4⟩; have TW := hid (T3.out.trans' t4); clear t4))
    clear r0 r1 r2 r3 r4 r5 r6 c0 c1 c2 c3 c4 c5 c6
    obtain ⟨a1, cp1, ha1, hcp1, hg1⟩ := hrn
    subst ha1
    have HRN : Hid (RN 62 W (.slice a1 ys.length cp1) ys) := hid ⟨a1, cp1, rfl, hcp1, hg1⟩
    obtain ⟨n, hn⟩ : ∃ n, n = ys.length := ⟨_, rfl⟩
    have HNy := hid hn
    rw [← hn] at HRN hyl ⊢
    clear hn hcp1 hg1
    have sX0 : ∀ w', Touch [] W w' → w'.cell? ⟨w.heap.size + 1, 0, none⟩ = some (.int .u16 x.1.1) := fun w' t => (HXB.out w' (TW.out.trans' t)).c0
    have sX1 : ∀ w', Touch [] W w' → w'.cell? ⟨w.heap.size + 1, 1, none⟩ = some (.string x.1.2) := fun w' t => (HXB.out w' (TW.out.trans' t)).c1
    have sX2 : ∀ w', Touch [] W w' → w'.cell? ⟨w.heap.size + 1, 2, none⟩ = some (.int .i64 x.2.1.1) := fun w' t => (HXB.out w' (TW.out.trans' t)).c2
    have sX3 : ∀ w', Touch [] W w' → w'.cell? ⟨w.heap.size + 1, 3, none⟩ = some (.int .i64 x.2.1.2.1) := fun w' t => (HXB.out w' (TW.out.trans' t)).c3
    have sX4 : ∀ w', Touch [] W w' → w'.cell? ⟨w.heap.size + 1, 4, none⟩ = some (.int .i64 x.2.1.2.2.1) := fun w' t => (HXB.out w' (TW.out.trans' t)).c4
    have sX5 : ∀ w', Touch [] W w' → w'.cell? ⟨w.heap.size + 1, 5, none⟩ = some (.int .i64 x.2.1.2.2.2) := fun w' t => (HXB.out w' (TW.out.trans' t)).c5
    have sX6 : ∀ w', Touch [] W w' → w'.cell? ⟨w.heap.size + 1, 6, none⟩ = some (.int .i64 x.2.2) := fun w' t => (HXB.out w' (TW.out.trans' t)).c6

    have HYL : Hid (0 + ys.length ≤ 1000000) := hid (by rw [← HNy.out]; omega)
    have hbA : Hid (W.heap.size ≤ (W.alloc (.cells #[] 62)).drew.heap.size) := hid (((Touch.refl [] W).alloc _).drew).size
    have hbB : Hid (W.heap.size ≤ ((W.alloc (.cells #[] 62)).alloc (.cells #[.int .u16 x.1.1, .string x.1.2, .int .i64 x.2.1.1, .int .i64 x.2.1.2.1, .int .i64 x.2.1.2.2.1, .int .i64 x.2.1.2.2.2, .int .i64 x.2.2] 62)).drew.heap.size) := hid ((((Touch.refl [] W).alloc _).alloc _).drew).size
    have hbC : Hid (W.heap.size ≤ ((W.alloc (.cells #[.int .u16 x.1.1, .string x.1.2, .int .i64 x.2.1.1, .int .i64 x.2.1.2.1, .int .i64 x.2.1.2.2.1, .int .i64 x.2.1.2.2.2, .int .i64 x.2.2] 62)).alloc (.cells #[] 62)).drew.heap.size) := hid ((((Touch.refl [] W).alloc _).alloc _).drew).size
    have OA : Hid ((W.alloc (.cells #[] 62)).drew.ownsRow W.heap.size 62 7 (.slice (some ⟨W.heap.size, 0, none⟩) 0 0) 0 []) := hid (own_new62 W)
    have OB : Hid (((W.alloc (.cells #[] 62)).alloc (.cells #[.int .u16 x.1.1, .string x.1.2, .int .i64 x.2.1.1, .int .i64 x.2.1.2.1, .int .i64 x.2.1.2.2.1, .int .i64 x.2.1.2.2.2, .int .i64 x.2.2] 62)).drew.ownsRow W.heap.size 62 7 (.slice (some ⟨W.heap.size, 0, none⟩) 0 0) 0 []) := hid ((own_new62 W).alloc _)
    have OC : Hid (((W.alloc (.cells #[.int .u16 x.1.1, .string x.1.2, .int .i64 x.2.1.1, .int .i64 x.2.1.2.1, .int .i64 x.2.1.2.2.1, .int .i64 x.2.1.2.2.2, .int .i64 x.2.2] 62)).alloc (.cells #[] 62)).drew.ownsRow W.heap.size 62 7 (.slice (some ⟨W.heap.size + 1, 0, none⟩) 0 0) 0 []) := hid (by have := own_base (base' := W.heap.size) (own_new62 (W.alloc (.cells #[.int .u16 x.1.1, .string x.1.2, .int .i64 x.2.1.1, .int .i64 x.2.1.2.1, .int .i64 x.2.1.2.2.1, .int .i64 x.2.1.2.2.2, .int .i64 x.2.2] 62))) (by simp); rw [World.size_alloc] at this; exact this)
    have RA : Hid (RN 62 (W.alloc (.cells #[] 62)).drew (.slice a1 n cp1) ys) := hid (HRN.out.keep ((Touch.refl _ _).alloc _).drew)
    have RB : Hid (RN 62 ((W.alloc (.cells #[] 62)).alloc (.cells #[.int .u16 x.1.1, .string x.1.2, .int .i64 x.2.1.1, .int .i64 x.2.1.2.1, .int .i64 x.2.1.2.2.1, .int .i64 x.2.1.2.2.2, .int .i64 x.2.2] 62)).drew (.slice a1 n cp1) ys) := hid (HRN.out.keep (((Touch.refl _ _).alloc _).alloc _).drew)
    have RC : Hid (RN 62 ((W.alloc (.cells #[.int .u16 x.1.1, .string x.1.2, .int .i64 x.2.1.1, .int .i64 x.2.1.2.1, .int .i64 x.2.1.2.2.1, .int .i64 x.2.1.2.2.2, .int .i64 x.2.2] 62)).alloc (.cells #[] 62)).drew (.slice a1 n cp1) ys) := hid (HRN.out.keep (((Touch.refl _ _).alloc _).alloc _).drew)
    have SA : Hid (∀ w5, Touch (Value.slice (some ⟨W.heap.size, 0, none⟩) 0 0).ownBlock.toList (W.alloc (.cells #[] 62)).drew w5 → Touch [] W w5) := hid (fun w5 t => (((Touch.refl [] W).alloc _).drew).trans t (fun q hq => Or.inr (by simp [Value.ownBlock] at hq; omega)))
    have SB : Hid (∀ w5, Touch (Value.slice (some ⟨W.heap.size, 0, none⟩) 0 0).ownBlock.toList ((W.alloc (.cells #[] 62)).alloc (.cells #[.int .u16 x.1.1, .string x.1.2, .int .i64 x.2.1.1, .int .i64 x.2.1.2.1, .int .i64 x.2.1.2.2.1, .int .i64 x.2.1.2.2.2, .int .i64 x.2.2] 62)).drew w5 → Touch [] W w5) := hid (fun w5 t => ((((Touch.refl [] W).alloc _).alloc _).drew).trans t (fun q hq => Or.inr (by simp [Value.ownBlock] at hq; omega)))
    have SC : Hid (∀ w5, Touch (Value.slice (some ⟨W.heap.size + 1, 0, none⟩) 0 0).ownBlock.toList ((W.alloc (.cells #[.int .u16 x.1.1, .string x.1.2, .int .i64 x.2.1.1, .int .i64 x.2.1.2.1, .int .i64 x.2.1.2.2.1, .int .i64 x.2.1.2.2.2, .int .i64 x.2.2] 62)).alloc (.cells #[] 62)).drew w5 → Touch [] W w5) := hid (fun w5 t => ((((Touch.refl [] W).alloc _).alloc _).drew).trans t (fun q hq => Or.inr (by simp [Value.ownBlock] at hq; omega)))
    have TB1 : Hid (∀ w5, Touch (Value.slice (some ⟨W.heap.size, 0, none⟩) 0 0).ownBlock.toList ((W.alloc (.cells #[] 62)).alloc (.cells #[.int .u16 x.1.1, .string x.1.2, .int .i64 x.2.1.1, .int .i64 x.2.1.2.1, .int .i64 x.2.1.2.2.1, .int .i64 x.2.1.2.2.2, .int .i64 x.2.2] 62)).drew w5 → w5.heap[W.heap.size + 1]? = some (.cells #[.int .u16 x.1.1, .string x.1.2, .int .i64 x.2.1.1, .int .i64 x.2.1.2.1, .int .i64 x.2.1.2.2.1, .int .i64 x.2.1.2.2.2, .int .i64 x.2.2] 62 (0, 0))) := hid (fun w5 t => t.keep (by have := heap_alloc_new (W.alloc (.cells #[] 62)) (.cells #[.int .u16 x.1.1, .string x.1.2, .int .i64 x.2.1.1, .int .i64 x.2.1.2.1, .int .i64 x.2.1.2.2.1, .int .i64 x.2.1.2.2.2, .int .i64 x.2.2] 62); rw [World.size_alloc] at this; exact this) (by simp [Value.ownBlock]))
    have TB2 : Hid (∀ w5, Touch (Value.slice (some ⟨W.heap.size + 1, 0, none⟩) 0 0).ownBlock.toList ((W.alloc (.cells #[.int .u16 x.1.1, .string x.1.2, .int .i64 x.2.1.1, .int .i64 x.2.1.2.1, .int .i64 x.2.1.2.2.1, .int .i64 x.2.1.2.2.2, .int .i64 x.2.2] 62)).alloc (.cells #[] 62)).drew w5 → w5.heap[W.heap.size]? = some (.cells #[.int .u16 x.1.1, .string x.1.2, .int .i64 x.2.1.1, .int .i64 x.2.1.2.1, .int .i64 x.2.1.2.2.1, .int .i64 x.2.1.2.2.2, .int .i64 x.2.2] 62 (0, 0))) := hid (fun w5 t => t.keep ((Below.heap_alloc _ _ _ (by simp)).trans (heap_alloc_new W (.cells #[.int .u16 x.1.1, .string x.1.2, .int .i64 x.2.1.1, .int .i64 x.2.1.2.1, .int .i64 x.2.1.2.2.1, .int .i64 x.2.1.2.2.2, .int .i64 x.2.2] 62))) (by simp [Value.ownBlock]))

    have t0 : Touch [] W W.drew := (Touch.refl _ _).drew
    go_cut [1] from 26 to 31 (fun s1 wx => ∃ g1 c1, s1 = .slice (some ⟨g1, 0, none⟩) (n + 1) c1 ∧ Hid (wx.ownsRow W.heap.size 62 7 (.slice (some ⟨g1, 0, none⟩) (n + 1) c1) (n + 1) (cellsN ys ++ nl x) ∧ Touch [] W wx))
    case first =>
      go_region_held3 (fun w' => Touch [] W w') (repeat (first | assumption | exact Touch.refl _ _ | apply Touch.alloc | apply Touch.drew))
        (first
        | ((have q1 := O1; refine step_append_lies _ (by rfl) _ _ 34 (by rfl) W.heap.size 62 i3 zk7 7 64 Try.underlying34 hf hz0 hz1 hz2 rfl (by decide) v5 n (cellsN ys) (by rfl) (O1.out.alloc _) ⟨w5.heap.size, 0, none⟩ 1 1 (nl x) (by rfl) rfl (news7 (heap_alloc_new w5 (.cells #[.int .u16 x.1.1, .string x.1.2, .int .i64 x.2.1.1, .int .i64 x.2.1.2.1, .int .i64 x.2.1.2.2.1, .int .i64 x.2.1.2.2.2, .int .i64 x.2.2] 62))) (nl_one x) (by decide) (by unfold maxLen; omega) (by omega) (Nat.le_trans s5.size (by simp)) _ rfl ?_; intro g1 c1 w6 hown6 hgrow hat hlt6; have s6 : Touch [] W w6 := (s5.alloc (.cells #[.int .u16 x.1.1, .string x.1.2, .int .i64 x.2.1.1, .int .i64 x.2.1.2.1, .int .i64 x.2.1.2.2.1, .int .i64 x.2.1.2.2.2, .int .i64 x.2.2] 62)).trans ((Touch.refl v5.ownBlock.toList (w5.alloc (.cells #[.int .u16 x.1.1, .string x.1.2, .int .i64 x.2.1.1, .int .i64 x.2.1.2.1, .int .i64 x.2.1.2.2.1, .int .i64 x.2.1.2.2.2, .int .i64 x.2.2] 62))).grown hgrow (fun k hk => Or.inl (by simp [hk]))) (fun q hq => Or.inr (O1.out.lt q (by simpa using hq)).1); have O6 := hid hown6; have S6' := hid s6; clear hown6 hgrow hat hlt6 q1))
        | ((have q1 := O1; refine step_append_lies _ (by rfl) _ _ 34 (by rfl) W.heap.size 62 i3 zk7 7 64 Try.underlying34 hf hz0 hz1 hz2 rfl (by decide) v5 n (cellsN ys) (by rfl) O1.out ⟨W.heap.size + 1, 0, none⟩ 1 1 (nl x) (by rfl) rfl (news7 (TB1.out _ T5.out)) (nl_one x) (by decide) (by unfold maxLen; omega) (by omega) s5.size _ rfl ?_; intro g1 c1 w6 hown6 hgrow hat hlt6; have s6 : Touch [] W w6 := s5.trans ((Touch.refl v5.ownBlock.toList w5).grown hgrow (fun k hk => Or.inl (by simp [hk]))) (fun q hq => Or.inr (O1.out.lt q (by simpa using hq)).1); have O6 := hid hown6; have S6' := hid s6; clear hown6 hgrow hat hlt6 q1))
        | ((have q1 := O1; refine step_append_lies _ (by rfl) _ _ 34 (by rfl) W.heap.size 62 i3 zk7 7 64 Try.underlying34 hf hz0 hz1 hz2 rfl (by decide) v5 n (cellsN ys) (by rfl) O1.out ⟨W.heap.size, 0, none⟩ 1 1 (nl x) (by rfl) rfl (news7 (TB2.out _ T5.out)) (nl_one x) (by decide) (by unfold maxLen; omega) (by omega) s5.size _ rfl ?_; intro g1 c1 w6 hown6 hgrow hat hlt6; have s6 : Touch [] W w6 := s5.trans ((Touch.refl v5.ownBlock.toList w5).grown hgrow (fun k hk => Or.inl (by simp [hk]))) (fun q hq => Or.inr (O1.out.lt q (by simpa using hq)).1); have O6 := hid hown6; have S6' := hid s6; clear hown6 hgrow hat hlt6 q1))
        | ((refine step_append_all _ (by rfl) _ _ (by rfl) W.heap.size (.slice (some ⟨W.heap.size, 0, none⟩) 0 0) 0 [] (by rfl) (OA.out) (.slice a1 n cp1) ys (by rfl) RA.out hbA.out HYL.out ?_; intro v5 w5 o5 t5 b5; have T5 := hid t5; have s5 : Touch [] W w5 := (SA.out _ t5); have O1 : Hid (w5.ownsRow W.heap.size 62 7 v5 n (cellsN ys)) := hid (by rw [Nat.zero_add, List.nil_append, ← HNy.out] at o5; exact o5); clear o5 t5 b5))
        | ((refine step_append_all _ (by rfl) _ _ (by rfl) W.heap.size (.slice (some ⟨W.heap.size, 0, none⟩) 0 0) 0 [] (by rfl) (OB.out) (.slice a1 n cp1) ys (by rfl) RB.out hbB.out HYL.out ?_; intro v5 w5 o5 t5 b5; have T5 := hid t5; have s5 : Touch [] W w5 := (SB.out _ t5); have O1 : Hid (w5.ownsRow W.heap.size 62 7 v5 n (cellsN ys)) := hid (by rw [Nat.zero_add, List.nil_append, ← HNy.out] at o5; exact o5); clear o5 t5 b5))
        | ((refine step_append_all _ (by rfl) _ _ (by rfl) W.heap.size (.slice (some ⟨W.heap.size + 1, 0, none⟩) 0 0) 0 [] (by rfl) (OC.out) (.slice a1 n cp1) ys (by rfl) RC.out hbC.out HYL.out ?_; intro v5 w5 o5 t5 b5; have T5 := hid t5; have s5 : Touch [] W w5 := (SC.out _ t5); have O1 : Hid (w5.ownsRow W.heap.size 62 7 v5 n (cellsN ys)) := hid (by rw [Nat.zero_add, List.nil_append, ← HNy.out] at o5; exact o5); clear o5 t5 b5))
        | fail)
      all_goals
        go_wp2_with fail
        go_meet
        case rel => exact ⟨g1, c1, rfl, hid ⟨O6.out, S6'.out⟩⟩
    case rest =>
      obtain ⟨g1, c1, rfl, HR6⟩ := hcut
      clear sX0 sX1 sX2 sX3 sX4 sX5 sX6 OA OB OC RA RB RC SA SB SC TB1 TB2 HYL hbA hbB hbC t0 HRN
      obtain ⟨P0, hP0⟩ : ∃ P0, P0 = ys ++ [x] := ⟨_, rfl⟩
      have HP0 : Hid (P0 = putY xs x.1 x.2 ∧ P0.length = n + 1) := hid ⟨by rw [hP0, HYS.out]; rfl, by rw [hP0, List.length_append, ← HNy.out]; rfl⟩
      have hwW : w.heap.size ≤ W.heap.size := (TV.out.trans' TW.out).size
      have HRP : Hid (RN 62 wc (.slice (some ⟨g1, 0, none⟩) (n + 1) c1) P0) := hid (by
        have := RN.own (xs := P0) (base := W.heap.size) (w := wc) (v := .slice (some ⟨g1, 0, none⟩) (n + 1) c1) (t := 62) (by rw [HP0.out.2, hP0, cellsN_app, cellsN_one]; exact HR6.out.1)
        exact this)
      have TC := hid (TW.out.trans' HR6.out.2)
      clear hP0 HR6
      have hn1 : n ≤ e := by have := HP0.out.2; have := HNy.out; have := HYL2.out; omega
      obtain ⟨j3, jf, jz0, jz1, jz2⟩ := info_parts info57
      go_upto_block 0 with fail
      have OG : Hid ((wc.alloc (.cells #[] 57)).ownsRow V.heap.size 57 2 (.slice (some ⟨wc.heap.size, 0, none⟩) 0 0) 0 []) := hid ⟨rfl, Or.inr ⟨wc.heap.size, 0, #[], rfl, TC.out.size, heap_alloc_new wc _, Nat.le_refl _, by unfold maxLen; omega, rfl, rfl⟩⟩
      have HRP2 := hid (HRP.out.keep ((Touch.refl [] wc).alloc (.cells #[] 57)))
      have TC2 := hid (TC.out.alloc (.cells #[] 57))
      generalize hwz : wc.alloc (.cells #[] 57) = WZ at *
      generalize wc.heap.size = gz at *
      clear hwz HRP TC
      go_wp2_with fail
      go_loopw [1, 10] (fun s1 s10 wr => ∃ (a : Option Addr) (n1 c1 : Nat) (a2 : Option Addr) (n2 c2 : Nat), s1 = .slice a n1 c1 ∧ s10 = .slice a2 n2 c2 ∧ n1 ≤ n + 1 ∧ n2 ≤ 1 ∧ Hid (∃ zs gs, n1 = zs.length ∧ n2 = gs.length ∧ RN 62 wr (.slice a n1 c1) zs ∧ wr.ownsRow V.heap.size 57 2 (.slice a2 n2 c2) n2 (cellsK gs) ∧ Touch [] V wr ∧ ((zs = P0 ∧ gs = []) ∨ (∃ y, P0 = y :: zs ∧ gs = [y.1] ∧ zs.length = e)))) (fun s1 _ _ => slen s1)
      case atStart => exact ⟨_, n + 1, _, _, 0, 0, rfl, rfl, Nat.le_refl _, Nat.zero_le _, hid ⟨P0, [], HP0.out.2.symm, rfl, HRP2.out, OG.out, TC2.out, Or.inl ⟨rfl, rfl⟩⟩⟩
      case round =>
        clear HRP2 OG TC2
        obtain ⟨a, n1, c1, a2, n2, c2, rfl, rfl, hn1', hn2, HS⟩ := hrel
        obtain ⟨zs, gs, e1, e2, hrn, hog, htt, hph⟩ := HS.out
        have ce := HCB.out _ htt
        by_cases hlt : e < n1
        · have zlt : (e : Int) < (n1 : Int) := by omega
          obtain ⟨hz, hg⟩ : zs = P0 ∧ gs = [] := by
            rcases hph with h | ⟨y, _, _, h3⟩
            · exact h
            · omega
          subst hg
          have hn20 : n2 = 0 := e2
          subst hn20
          have hrn' := hrn
          obtain ⟨a', c', ha', hca, hgg⟩ := hrn'
          injection ha' with f1 f2 f3
          subst f1
          obtain ⟨g8, off8, rfl, hat⟩ := hgg (by omega)
          have h0 : 0 < zs.length := by omega
          have q0 := hat.cell 0 0 h0 (by omega) rfl
          have q1 := hat.cell 0 1 h0 (by omega) rfl
          rw [Nat.zero_mul, Nat.zero_add, Nat.add_zero] at q0
          rw [Nat.zero_mul, Nat.zero_add] at q1
          have HWz : Hid (∀ w2, (∀ (r : Nat) (cs : Array Value), wr.heap[r]? = some (.cells cs 62 (0, 0)) → w2.heap[r]? = some (.cells cs 62 (0, 0))) → Calls Try.prog 33 #[.slice (some ⟨g8, off8, none⟩) n1 c1, .int .i64 0] w2 fun z w' => ∃ v', z = .returned v' ∧ RN 62 w' v' zs.tail ∧ Touch [] w2 w') := hid (fun w2 t => by
            have := without33 w2 _ zs 0 h0 (by omega) (hrn.keepK t)
            simp only [Int.ofNat_zero] at this
            refine Calls.mono this ?_
            rintro z w' ⟨v', rfl, o, t⟩
            refine ⟨v', rfl, RN.own (base := w2.heap.size) ?_, t⟩
            rw [List.length_tail, ← List.eraseIdx_zero]
            exact o)
          obtain ⟨y, hy⟩ : ∃ y, y = zs[0] := ⟨_, rfl⟩
          rw [← hy] at q0 q1
          have HZ : Hid (P0 = y :: zs.tail ∧ zs.tail.length = e ∧ n1 - 1 = e) := hid (by
            have h2 : zs = y :: zs.tail := by rw [hy]; cases zs with | nil => (simp at h0) | cons b l => rfl
            have h3 : zs.tail.length = e := by rw [List.length_tail]; have := HP0.out.2; rw [← hz] at this; omega
            exact ⟨by rw [← hz]; exact h2, h3, by omega⟩)
          have HOG := hid hog
          have MK9 : Hid (∀ w9, World.grownBy (wr.alloc (.cells #[.int .u16 y.1.1, .string y.1.2] 57)) w9 (Value.slice a2 0 c2).ownBlock → ∀ (r : Nat) (cs : Array Value), wr.heap[r]? = some (.cells cs 62 (0, 0)) → w9.heap[r]? = some (.cells cs 62 (0, 0))) := hid (fun w9 hg r cs hr => ((Touch.refl (Value.slice a2 0 c2).ownBlock.toList _).grown hg (fun k hk => Or.inl (by simp [hk]))).keep (((Touch.refl [] wr).alloc _).keep hr (by simp)) (fun hh => by
            obtain ⟨cs', hcs⟩ := own_kin hog (show _ = some r by simpa using hh)
            rw [hr] at hcs
            simp at hcs))
          have HTT := hid htt
          have hsz := HTT.out.size
          have htv := TV.out.size
          clear hrn hgg hat h0 hy hph hz e1 e2 HS f2 f3 hog htt hlt hca
          generalize zs.tail = zt at *
          clear zs
          go_wp2_with (first
            | (at_builtin; refine wpList_append_lies _ rfl _ _ 100 rfl V.heap.size 57 j3 (.agg #[.int .u16 0, .string ⟨#[]⟩]) 2 24 Try.underlying100 jf jz0 jz1 jz2 rfl (by decide) (.slice a2 0 c2) 0 (cellsK []) rfl (HOG.out.alloc _) ⟨wr.heap.size, 0, none⟩ 1 1 [.int .u16 y.1.1, .string y.1.2] rfl rfl (cell_two_new _ _ _ _) (by simp [Value.oneCell']) (by decide) (by unfold maxLen; omega) (by omega) (by simp; omega) _ rfl ?_; intro g9 c9 w9 hown9 hgrow hat hlt9; have s9 : Touch [] V w9 := (HTT.out.alloc _).trans ((Touch.refl (Value.slice a2 0 c2).ownBlock.toList _).grown hgrow (fun k hk => Or.inl (by simp [hk]))) (fun q hq => Or.inr (HOG.out.lt q (by simpa using hq)).1); have M9 := hid (MK9.out _ hgrow); have O9 := hid hown9; have S9 := hid s9; clear hown9 hgrow hat hlt9 s9)
            | (go_at_call 33; refine (HWz.out _ M9.out).mono ?_; rintro z w10 ⟨v10, rfl, r10, t10⟩; have R10 := hid r10; have T10 := hid t10; clear r10 t10))
          obtain ⟨a10, c10, hv10, _⟩ := R10.out
          subst hv10
          rw [HZ.out.2.1]
          go_roundw
          case rel =>
            refine ⟨a10, e, c10, _, 1, c9, rfl, rfl, by omega, Nat.le_refl _, hid ⟨zt, [y.1], HZ.out.2.1.symm, rfl, ?_, ?_, S9.out.trans' T10.out, Or.inr ⟨y, HZ.out.1, rfl, HZ.out.2.1⟩⟩⟩
            · have := R10.out
              rw [HZ.out.2.1] at this
              exact this
            · exact own_touch O9.out T10.out (fun _ _ e => by cases e)
          case measure => simp [slen]; have := HZ.out.2.2; omega
        · have zlt : (n1 : Int) ≤ (e : Int) := by omega
          have HX : Hid (KwQ w e xs x (.slice a n1 c1) (.slice a2 n2 c2) wr) := hid (by
            rcases hph with ⟨h1, h2⟩ | ⟨y, h1, h2, h3⟩
            · have hp := putL_tail (e := e) (xs := xs) (k := x.1) (v := x.2) (by rw [← HP0.out.1, ← h1]; omega)
              refine ⟨by rw [hp.1, ← HP0.out.1, ← h1]; exact hrn, ?_, TV.out.trans' htt⟩
              rw [hp.2]
              have := own_base (base' := 0) hog (Nat.zero_le _)
              rw [h2] at this e2
              rw [e2] at this ⊢
              exact this
            · have hp := putL_head (e := e) (xs := xs) (k := x.1) (v := x.2) (y := y) (zs := zs) (by rw [← HP0.out.1, h1]; simp; omega) (by rw [← HP0.out.1]; exact h1)
              refine ⟨by rw [hp.1]; exact hrn, ?_, TV.out.trans' htt⟩
              rw [hp.2]
              have := own_base (base' := 0) hog (Nat.zero_le _)
              rw [h2] at this e2
              rw [e2] at this ⊢
              exact this)
          clear HS hrn hog htt hph
          go_wp2_with fail
          exact bodyPost_ret (v := .tuple #[.slice a n1 c1, .bool true, .slice a2 n2 c2]) (by simp [results, Try.results60, go_sem]) rfl ⟨_, _, rfl, HX.out⟩
  · rw [pos_no hm] at HF
    have hyl : xs.length ≤ 65536 := by omega
    have HYS : Hid (xs = drx xs x.1) := hid (by
      unfold drx
      refine (List.filter_eq_self.2 (fun y hy => decide_eq_true (p := y.1 ≠ x.1) (fun e => hm (by rw [← e]; exact List.mem_map_of_mem hy)))).symm)
    have HYL2 : Hid (xs.length ≤ e) := hid hxl
    have HRx := HR
    clear hm
    obtain ⟨ys, hys⟩ : ∃ ys, ys = xs := ⟨_, rfl⟩
    have HYS2 : Hid (ys = drx xs x.1) := hid (by rw [hys]; exact HYS.out)
    have HYL2 : Hid (ys.length ≤ e) := hid (by rw [hys]; exact hxl)
    have hyl : ys.length ≤ 65536 := by rw [hys]; omega
    have HRy : Hid (RN 62 w (.slice a xs.length cp) ys) := hid (by rw [hys]; exact HRx.out)
    clear HYS
    have HYS := HYS2
    clear hys HRx HYS2
    go_enter Try.func60, Try.ntmps60
    go_upto_region 1 with fail
    unfold cbx rbx at hV
    rw [← hV]
    clear hV
    go_upto_region 6 with (first
      | (go_at_call 44; refine HK.out.mono ?_; rintro z w2 ⟨rfl, t2⟩; have T2 := hid t2; clear r0 r1 r2 r3 r4 r5 r6; obtain ⟨r0, r1, r2, r3, r4, r5, r6⟩ := HXB.out _ t2; clear t2)
      | (go_at_call 31; refine (HF.out _ T2.out).mono ?_; rintro z W ⟨rfl, t3⟩; have TW := hid (T2.out.trans' t3); clear t3))
    clear r0 r1 r2 r3 r4 r5 r6 c0 c1 c2 c3 c4 c5 c6
    have hrn := HRy.out.keep (TV.out.trans' TW.out)
    obtain ⟨a1, cp1, ha1, hcp1, hg1⟩ := hrn
    injection ha1 with k1 k2 k3
    subst k1 k3
    rw [k2]
    clear k2 HRy
    obtain ⟨a1, rfl⟩ : ∃ a1, a1 = a := ⟨_, rfl⟩
    obtain ⟨cp1, rfl⟩ : ∃ cp1, cp1 = cp := ⟨_, rfl⟩
    have HRN : Hid (RN 62 W (.slice a1 ys.length cp1) ys) := hid ⟨a1, cp1, rfl, hcp1, hg1⟩
    obtain ⟨n, hn⟩ : ∃ n, n = ys.length := ⟨_, rfl⟩
    have HNy := hid hn
    rw [← hn] at HRN hyl ⊢
    clear hn hcp1 hg1
    have sX0 : ∀ w', Touch [] W w' → w'.cell? ⟨w.heap.size + 1, 0, none⟩ = some (.int .u16 x.1.1) := fun w' t => (HXB.out w' (TW.out.trans' t)).c0
    have sX1 : ∀ w', Touch [] W w' → w'.cell? ⟨w.heap.size + 1, 1, none⟩ = some (.string x.1.2) := fun w' t => (HXB.out w' (TW.out.trans' t)).c1
    have sX2 : ∀ w', Touch [] W w' → w'.cell? ⟨w.heap.size + 1, 2, none⟩ = some (.int .i64 x.2.1.1) := fun w' t => (HXB.out w' (TW.out.trans' t)).c2
    have sX3 : ∀ w', Touch [] W w' → w'.cell? ⟨w.heap.size + 1, 3, none⟩ = some (.int .i64 x.2.1.2.1) := fun w' t => (HXB.out w' (TW.out.trans' t)).c3
    have sX4 : ∀ w', Touch [] W w' → w'.cell? ⟨w.heap.size + 1, 4, none⟩ = some (.int .i64 x.2.1.2.2.1) := fun w' t => (HXB.out w' (TW.out.trans' t)).c4
    have sX5 : ∀ w', Touch [] W w' → w'.cell? ⟨w.heap.size + 1, 5, none⟩ = some (.int .i64 x.2.1.2.2.2) := fun w' t => (HXB.out w' (TW.out.trans' t)).c5
    have sX6 : ∀ w', Touch [] W w' → w'.cell? ⟨w.heap.size + 1, 6, none⟩ = some (.int .i64 x.2.2) := fun w' t => (HXB.out w' (TW.out.trans' t)).c6

    have HYL : Hid (0 + ys.length ≤ 1000000) := hid (by rw [← HNy.out]; omega)
    have hbA : Hid (W.heap.size ≤ (W.alloc (.cells #[] 62)).drew.heap.size) := hid (((Touch.refl [] W).alloc _).drew).size
    have hbB : Hid (W.heap.size ≤ ((W.alloc (.cells #[] 62)).alloc (.cells #[.int .u16 x.1.1, .string x.1.2, .int .i64 x.2.1.1, .int .i64 x.2.1.2.1, .int .i64 x.2.1.2.2.1, .int .i64 x.2.1.2.2.2, .int .i64 x.2.2] 62)).drew.heap.size) := hid ((((Touch.refl [] W).alloc _).alloc _).drew).size
    have hbC : Hid (W.heap.size ≤ ((W.alloc (.cells #[.int .u16 x.1.1, .string x.1.2, .int .i64 x.2.1.1, .int .i64 x.2.1.2.1, .int .i64 x.2.1.2.2.1, .int .i64 x.2.1.2.2.2, .int .i64 x.2.2] 62)).alloc (.cells #[] 62)).drew.heap.size) := hid ((((Touch.refl [] W).alloc _).alloc _).drew).size
    have OA : Hid ((W.alloc (.cells #[] 62)).drew.ownsRow W.heap.size 62 7 (.slice (some ⟨W.heap.size, 0, none⟩) 0 0) 0 []) := hid (own_new62 W)
    have OB : Hid (((W.alloc (.cells #[] 62)).alloc (.cells #[.int .u16 x.1.1, .string x.1.2, .int .i64 x.2.1.1, .int .i64 x.2.1.2.1, .int .i64 x.2.1.2.2.1, .int .i64 x.2.1.2.2.2, .int .i64 x.2.2] 62)).drew.ownsRow W.heap.size 62 7 (.slice (some ⟨W.heap.size, 0, none⟩) 0 0) 0 []) := hid ((own_new62 W).alloc _)
    have OC : Hid (((W.alloc (.cells #[.int .u16 x.1.1, .string x.1.2, .int .i64 x.2.1.1, .int .i64 x.2.1.2.1, .int .i64 x.2.1.2.2.1, .int .i64 x.2.1.2.2.2, .int .i64 x.2.2] 62)).alloc (.cells #[] 62)).drew.ownsRow W.heap.size 62 7 (.slice (some ⟨W.heap.size + 1, 0, none⟩) 0 0) 0 []) := hid (by have := own_base (base' := W.heap.size) (own_new62 (W.alloc (.cells #[.int .u16 x.1.1, .string x.1.2, .int .i64 x.2.1.1, .int .i64 x.2.1.2.1, .int .i64 x.2.1.2.2.1, .int .i64 x.2.1.2.2.2, .int .i64 x.2.2] 62))) (by simp); rw [World.size_alloc] at this; exact this)
    have RA : Hid (RN 62 (W.alloc (.cells #[] 62)).drew (.slice a1 n cp1) ys) := hid (HRN.out.keep ((Touch.refl _ _).alloc _).drew)
    have RB : Hid (RN 62 ((W.alloc (.cells #[] 62)).alloc (.cells #[.int .u16 x.1.1, .string x.1.2, .int .i64 x.2.1.1, .int .i64 x.2.1.2.1, .int .i64 x.2.1.2.2.1, .int .i64 x.2.1.2.2.2, .int .i64 x.2.2] 62)).drew (.slice a1 n cp1) ys) := hid (HRN.out.keep (((Touch.refl _ _).alloc _).alloc _).drew)
    have RC : Hid (RN 62 ((W.alloc (.cells #[.int .u16 x.1.1, .string x.1.2, .int .i64 x.2.1.1, .int .i64 x.2.1.2.1, .int .i64 x.2.1.2.2.1, .int .i64 x.2.1.2.2.2, .int .i64 x.2.2] 62)).alloc (.cells #[] 62)).drew (.slice a1 n cp1) ys) := hid (HRN.out.keep (((Touch.refl _ _).alloc _).alloc _).drew)
    have SA : Hid (∀ w5, Touch (Value.slice (some ⟨W.heap.size, 0, none⟩) 0 0).ownBlock.toList (W.alloc (.cells #[] 62)).drew w5 → Touch [] W w5) := hid (fun w5 t => (((Touch.refl [] W).alloc _).drew).trans t (fun q hq => Or.inr (by simp [Value.ownBlock] at hq; omega)))
    have SB : Hid (∀ w5, Touch (Value.slice (some ⟨W.heap.size, 0, none⟩) 0 0).ownBlock.toList ((W.alloc (.cells #[] 62)).alloc (.cells #[.int .u16 x.1.1, .string x.1.2, .int .i64 x.2.1.1, .int .i64 x.2.1.2.1, .int .i64 x.2.1.2.2.1, .int .i64 x.2.1.2.2.2, .int .i64 x.2.2] 62)).drew w5 → Touch [] W w5) := hid (fun w5 t => ((((Touch.refl [] W).alloc _).alloc _).drew).trans t (fun q hq => Or.inr (by simp [Value.ownBlock] at hq; omega)))
    have SC : Hid (∀ w5, Touch (Value.slice (some ⟨W.heap.size + 1, 0, none⟩) 0 0).ownBlock.toList ((W.alloc (.cells #[.int .u16 x.1.1, .string x.1.2, .int .i64 x.2.1.1, .int .i64 x.2.1.2.1, .int .i64 x.2.1.2.2.1, .int .i64 x.2.1.2.2.2, .int .i64 x.2.2] 62)).alloc (.cells #[] 62)).drew w5 → Touch [] W w5) := hid (fun w5 t => ((((Touch.refl [] W).alloc _).alloc _).drew).trans t (fun q hq => Or.inr (by simp [Value.ownBlock] at hq; omega)))
    have TB1 : Hid (∀ w5, Touch (Value.slice (some ⟨W.heap.size, 0, none⟩) 0 0).ownBlock.toList ((W.alloc (.cells #[] 62)).alloc (.cells #[.int .u16 x.1.1, .string x.1.2, .int .i64 x.2.1.1, .int .i64 x.2.1.2.1, .int .i64 x.2.1.2.2.1, .int .i64 x.2.1.2.2.2, .int .i64 x.2.2] 62)).drew w5 → w5.heap[W.heap.size + 1]? = some (.cells #[.int .u16 x.1.1, .string x.1.2, .int .i64 x.2.1.1, .int .i64 x.2.1.2.1, .int .i64 x.2.1.2.2.1, .int .i64 x.2.1.2.2.2, .int .i64 x.2.2] 62 (0, 0))) := hid (fun w5 t => t.keep (by have := heap_alloc_new (W.alloc (.cells #[] 62)) (.cells #[.int .u16 x.1.1, .string x.1.2, .int .i64 x.2.1.1, .int .i64 x.2.1.2.1, .int .i64 x.2.1.2.2.1, .int .i64 x.2.1.2.2.2, .int .i64 x.2.2] 62); rw [World.size_alloc] at this; exact this) (by simp [Value.ownBlock]))
    have TB2 : Hid (∀ w5, Touch (Value.slice (some ⟨W.heap.size + 1, 0, none⟩) 0 0).ownBlock.toList ((W.alloc (.cells #[.int .u16 x.1.1, .string x.1.2, .int .i64 x.2.1.1, .int .i64 x.2.1.2.1, .int .i64 x.2.1.2.2.1, .int .i64 x.2.1.2.2.2, .int .i64 x.2.2] 62)).alloc (.cells #[] 62)).drew w5 → w5.heap[W.heap.size]? = some (.cells #[.int .u16 x.1.1, .string x.1.2, .int .i64 x.2.1.1, .int .i64 x.2.1.2.1, .int .i64 x.2.1.2.2.1, .int .i64 x.2.1.2.2.2, .int .i64 x.2.2] 62 (0, 0))) := hid (fun w5 t => t.keep ((Below.heap_alloc _ _ _ (by simp)).trans (heap_alloc_new W (.cells #[.int .u16 x.1.1, .string x.1.2, .int .i64 x.2.1.1, .int .i64 x.2.1.2.1, .int .i64 x.2.1.2.2.1, .int .i64 x.2.1.2.2.2, .int .i64 x.2.2] 62))) (by simp [Value.ownBlock]))

    have t0 : Touch [] W W.drew := (Touch.refl _ _).drew
    go_cut [1] from 26 to 31 (fun s1 wx => ∃ g1 c1, s1 = .slice (some ⟨g1, 0, none⟩) (n + 1) c1 ∧ Hid (wx.ownsRow W.heap.size 62 7 (.slice (some ⟨g1, 0, none⟩) (n + 1) c1) (n + 1) (cellsN ys ++ nl x) ∧ Touch [] W wx))
    case first =>
      go_region_held3 (fun w' => Touch [] W w') (repeat (first | assumption | exact Touch.refl _ _ | apply Touch.alloc | apply Touch.drew))
        (first
        | ((have q1 := O1; refine step_append_lies _ (by rfl) _ _ 34 (by rfl) W.heap.size 62 i3 zk7 7 64 Try.underlying34 hf hz0 hz1 hz2 rfl (by decide) v5 n (cellsN ys) (by rfl) (O1.out.alloc _) ⟨w5.heap.size, 0, none⟩ 1 1 (nl x) (by rfl) rfl (news7 (heap_alloc_new w5 (.cells #[.int .u16 x.1.1, .string x.1.2, .int .i64 x.2.1.1, .int .i64 x.2.1.2.1, .int .i64 x.2.1.2.2.1, .int .i64 x.2.1.2.2.2, .int .i64 x.2.2] 62))) (nl_one x) (by decide) (by unfold maxLen; omega) (by omega) (Nat.le_trans s5.size (by simp)) _ rfl ?_; intro g1 c1 w6 hown6 hgrow hat hlt6; have s6 : Touch [] W w6 := (s5.alloc (.cells #[.int .u16 x.1.1, .string x.1.2, .int .i64 x.2.1.1, .int .i64 x.2.1.2.1, .int .i64 x.2.1.2.2.1, .int .i64 x.2.1.2.2.2, .int .i64 x.2.2] 62)).trans ((Touch.refl v5.ownBlock.toList (w5.alloc (.cells #[.int .u16 x.1.1, .string x.1.2, .int .i64 x.2.1.1, .int .i64 x.2.1.2.1, .int .i64 x.2.1.2.2.1, .int .i64 x.2.1.2.2.2, .int .i64 x.2.2] 62))).grown hgrow (fun k hk => Or.inl (by simp [hk]))) (fun q hq => Or.inr (O1.out.lt q (by simpa using hq)).1); have O6 := hid hown6; have S6' := hid s6; clear hown6 hgrow hat hlt6 q1))
        | ((have q1 := O1; refine step_append_lies _ (by rfl) _ _ 34 (by rfl) W.heap.size 62 i3 zk7 7 64 Try.underlying34 hf hz0 hz1 hz2 rfl (by decide) v5 n (cellsN ys) (by rfl) O1.out ⟨W.heap.size + 1, 0, none⟩ 1 1 (nl x) (by rfl) rfl (news7 (TB1.out _ T5.out)) (nl_one x) (by decide) (by unfold maxLen; omega) (by omega) s5.size _ rfl ?_; intro g1 c1 w6 hown6 hgrow hat hlt6; have s6 : Touch [] W w6 := s5.trans ((Touch.refl v5.ownBlock.toList w5).grown hgrow (fun k hk => Or.inl (by simp [hk]))) (fun q hq => Or.inr (O1.out.lt q (by simpa using hq)).1); have O6 := hid hown6; have S6' := hid s6; clear hown6 hgrow hat hlt6 q1))
        | ((have q1 := O1; refine step_append_lies _ (by rfl) _ _ 34 (by rfl) W.heap.size 62 i3 zk7 7 64 Try.underlying34 hf hz0 hz1 hz2 rfl (by decide) v5 n (cellsN ys) (by rfl) O1.out ⟨W.heap.size, 0, none⟩ 1 1 (nl x) (by rfl) rfl (news7 (TB2.out _ T5.out)) (nl_one x) (by decide) (by unfold maxLen; omega) (by omega) s5.size _ rfl ?_; intro g1 c1 w6 hown6 hgrow hat hlt6; have s6 : Touch [] W w6 := s5.trans ((Touch.refl v5.ownBlock.toList w5).grown hgrow (fun k hk => Or.inl (by simp [hk]))) (fun q hq => Or.inr (O1.out.lt q (by simpa using hq)).1); have O6 := hid hown6; have S6' := hid s6; clear hown6 hgrow hat hlt6 q1))
        | ((refine step_append_all _ (by rfl) _ _ (by rfl) W.heap.size (.slice (some ⟨W.heap.size, 0, none⟩) 0 0) 0 [] (by rfl) (OA.out) (.slice a1 n cp1) ys (by rfl) RA.out hbA.out HYL.out ?_; intro v5 w5 o5 t5 b5; have T5 := hid t5; have s5 : Touch [] W w5 := (SA.out _ t5); have O1 : Hid (w5.ownsRow W.heap.size 62 7 v5 n (cellsN ys)) := hid (by rw [Nat.zero_add, List.nil_append, ← HNy.out] at o5; exact o5); clear o5 t5 b5))
        | ((refine step_append_all _ (by rfl) _ _ (by rfl) W.heap.size (.slice (some ⟨W.heap.size, 0, none⟩) 0 0) 0 [] (by rfl) (OB.out) (.slice a1 n cp1) ys (by rfl) RB.out hbB.out HYL.out ?_; intro v5 w5 o5 t5 b5; have T5 := hid t5; have s5 : Touch [] W w5 := (SB.out _ t5); have O1 : Hid (w5.ownsRow W.heap.size 62 7 v5 n (cellsN ys)) := hid (by rw [Nat.zero_add, List.nil_append, ← HNy.out] at o5; exact o5); clear o5 t5 b5))
        | ((refine step_append_all _ (by rfl) _ _ (by rfl) W.heap.size (.slice (some ⟨W.heap.size + 1, 0, none⟩) 0 0) 0 [] (by rfl) (OC.out) (.slice a1 n cp1) ys (by rfl) RC.out hbC.out HYL.out ?_; intro v5 w5 o5 t5 b5; have T5 := hid t5; have s5 : Touch [] W w5 := (SC.out _ t5); have O1 : Hid (w5.ownsRow W.heap.size 62 7 v5 n (cellsN ys)) := hid (by rw [Nat.zero_add, List.nil_append, ← HNy.out] at o5; exact o5); clear o5 t5 b5))
        | fail)
      all_goals
        go_wp2_with fail
        go_meet
        case rel => exact ⟨g1, c1, rfl, hid ⟨O6.out, S6'.out⟩⟩
    case rest =>
      obtain ⟨g1, c1, rfl, HR6⟩ := hcut
      clear sX0 sX1 sX2 sX3 sX4 sX5 sX6 OA OB OC RA RB RC SA SB SC TB1 TB2 HYL hbA hbB hbC t0 HRN
      obtain ⟨P0, hP0⟩ : ∃ P0, P0 = ys ++ [x] := ⟨_, rfl⟩
      have HP0 : Hid (P0 = putY xs x.1 x.2 ∧ P0.length = n + 1) := hid ⟨by rw [hP0, HYS.out]; rfl, by rw [hP0, List.length_append, ← HNy.out]; rfl⟩
      have hwW : w.heap.size ≤ W.heap.size := (TV.out.trans' TW.out).size
      have HRP : Hid (RN 62 wc (.slice (some ⟨g1, 0, none⟩) (n + 1) c1) P0) := hid (by
        have := RN.own (xs := P0) (base := W.heap.size) (w := wc) (v := .slice (some ⟨g1, 0, none⟩) (n + 1) c1) (t := 62) (by rw [HP0.out.2, hP0, cellsN_app, cellsN_one]; exact HR6.out.1)
        exact this)
      have TC := hid (TW.out.trans' HR6.out.2)
      clear hP0 HR6
      have hn1 : n ≤ e := by have := HP0.out.2; have := HNy.out; have := HYL2.out; omega
      obtain ⟨j3, jf, jz0, jz1, jz2⟩ := info_parts info57
      go_upto_block 0 with fail
      have OG : Hid ((wc.alloc (.cells #[] 57)).ownsRow V.heap.size 57 2 (.slice (some ⟨wc.heap.size, 0, none⟩) 0 0) 0 []) := hid ⟨rfl, Or.inr ⟨wc.heap.size, 0, #[], rfl, TC.out.size, heap_alloc_new wc _, Nat.le_refl _, by unfold maxLen; omega, rfl, rfl⟩⟩
      have HRP2 := hid (HRP.out.keep ((Touch.refl [] wc).alloc (.cells #[] 57)))
      have TC2 := hid (TC.out.alloc (.cells #[] 57))
      generalize hwz : wc.alloc (.cells #[] 57) = WZ at *
      generalize wc.heap.size = gz at *
      clear hwz HRP TC
      go_wp2_with fail
      go_loopw [1, 10] (fun s1 s10 wr => ∃ (a : Option Addr) (n1 c1 : Nat) (a2 : Option Addr) (n2 c2 : Nat), s1 = .slice a n1 c1 ∧ s10 = .slice a2 n2 c2 ∧ n1 ≤ n + 1 ∧ n2 ≤ 1 ∧ Hid (∃ zs gs, n1 = zs.length ∧ n2 = gs.length ∧ RN 62 wr (.slice a n1 c1) zs ∧ wr.ownsRow V.heap.size 57 2 (.slice a2 n2 c2) n2 (cellsK gs) ∧ Touch [] V wr ∧ ((zs = P0 ∧ gs = []) ∨ (∃ y, P0 = y :: zs ∧ gs = [y.1] ∧ zs.length = e)))) (fun s1 _ _ => slen s1)
      case atStart => exact ⟨_, n + 1, _, _, 0, 0, rfl, rfl, Nat.le_refl _, Nat.zero_le _, hid ⟨P0, [], HP0.out.2.symm, rfl, HRP2.out, OG.out, TC2.out, Or.inl ⟨rfl, rfl⟩⟩⟩
      case round =>
        clear HRP2 OG TC2
        obtain ⟨a, n1, c1, a2, n2, c2, rfl, rfl, hn1', hn2, HS⟩ := hrel
        obtain ⟨zs, gs, e1, e2, hrn, hog, htt, hph⟩ := HS.out
        have ce := HCB.out _ htt
        by_cases hlt : e < n1
        · have zlt : (e : Int) < (n1 : Int) := by omega
          obtain ⟨hz, hg⟩ : zs = P0 ∧ gs = [] := by
            rcases hph with h | ⟨y, _, _, h3⟩
            · exact h
            · omega
          subst hg
          have hn20 : n2 = 0 := e2
          subst hn20
          have hrn' := hrn
          obtain ⟨a', c', ha', hca, hgg⟩ := hrn'
          injection ha' with f1 f2 f3
          subst f1
          obtain ⟨g8, off8, rfl, hat⟩ := hgg (by omega)
          have h0 : 0 < zs.length := by omega
          have q0 := hat.cell 0 0 h0 (by omega) rfl
          have q1 := hat.cell 0 1 h0 (by omega) rfl
          rw [Nat.zero_mul, Nat.zero_add, Nat.add_zero] at q0
          rw [Nat.zero_mul, Nat.zero_add] at q1
          have HWz : Hid (∀ w2, (∀ (r : Nat) (cs : Array Value), wr.heap[r]? = some (.cells cs 62 (0, 0)) → w2.heap[r]? = some (.cells cs 62 (0, 0))) → Calls Try.prog 33 #[.slice (some ⟨g8, off8, none⟩) n1 c1, .int .i64 0] w2 fun z w' => ∃ v', z = .returned v' ∧ RN 62 w' v' zs.tail ∧ Touch [] w2 w') := hid (fun w2 t => by
            have := without33 w2 _ zs 0 h0 (by omega) (hrn.keepK t)
            simp only [Int.ofNat_zero] at this
            refine Calls.mono this ?_
            rintro z w' ⟨v', rfl, o, t⟩
            refine ⟨v', rfl, RN.own (base := w2.heap.size) ?_, t⟩
            rw [List.length_tail, ← List.eraseIdx_zero]
            exact o)
          obtain ⟨y, hy⟩ : ∃ y, y = zs[0] := ⟨_, rfl⟩
          rw [← hy] at q0 q1
          have HZ : Hid (P0 = y :: zs.tail ∧ zs.tail.length = e ∧ n1 - 1 = e) := hid (by
            have h2 : zs = y :: zs.tail := by rw [hy]; cases zs with | nil => (simp at h0) | cons b l => rfl
            have h3 : zs.tail.length = e := by rw [List.length_tail]; have := HP0.out.2; rw [← hz] at this; omega
            exact ⟨by rw [← hz]; exact h2, h3, by omega⟩)
          have HOG := hid hog
          have MK9 : Hid (∀ w9, World.grownBy (wr.alloc (.cells #[.int .u16 y.1.1, .string y.1.2] 57)) w9 (Value.slice a2 0 c2).ownBlock → ∀ (r : Nat) (cs : Array Value), wr.heap[r]? = some (.cells cs 62 (0, 0)) → w9.heap[r]? = some (.cells cs 62 (0, 0))) := hid (fun w9 hg r cs hr => ((Touch.refl (Value.slice a2 0 c2).ownBlock.toList _).grown hg (fun k hk => Or.inl (by simp [hk]))).keep (((Touch.refl [] wr).alloc _).keep hr (by simp)) (fun hh => by
            obtain ⟨cs', hcs⟩ := own_kin hog (show _ = some r by simpa using hh)
            rw [hr] at hcs
            simp at hcs))
          have HTT := hid htt
          have hsz := HTT.out.size
          have htv := TV.out.size
          clear hrn hgg hat h0 hy hph hz e1 e2 HS f2 f3 hog htt hlt hca
          generalize zs.tail = zt at *
          clear zs
          go_wp2_with (first
            | (at_builtin; refine wpList_append_lies _ rfl _ _ 100 rfl V.heap.size 57 j3 (.agg #[.int .u16 0, .string ⟨#[]⟩]) 2 24 Try.underlying100 jf jz0 jz1 jz2 rfl (by decide) (.slice a2 0 c2) 0 (cellsK []) rfl (HOG.out.alloc _) ⟨wr.heap.size, 0, none⟩ 1 1 [.int .u16 y.1.1, .string y.1.2] rfl rfl (cell_two_new _ _ _ _) (by simp [Value.oneCell']) (by decide) (by unfold maxLen; omega) (by omega) (by simp; omega) _ rfl ?_; intro g9 c9 w9 hown9 hgrow hat hlt9; have s9 : Touch [] V w9 := (HTT.out.alloc _).trans ((Touch.refl (Value.slice a2 0 c2).ownBlock.toList _).grown hgrow (fun k hk => Or.inl (by simp [hk]))) (fun q hq => Or.inr (HOG.out.lt q (by simpa using hq)).1); have M9 := hid (MK9.out _ hgrow); have O9 := hid hown9; have S9 := hid s9; clear hown9 hgrow hat hlt9 s9)
            | (go_at_call 33; refine (HWz.out _ M9.out).mono ?_; rintro z w10 ⟨v10, rfl, r10, t10⟩; have R10 := hid r10; have T10 := hid t10; clear r10 t10))
          obtain ⟨a10, c10, hv10, _⟩ := R10.out
          subst hv10
          rw [HZ.out.2.1]
          go_roundw
          case rel =>
            refine ⟨a10, e, c10, _, 1, c9, rfl, rfl, by omega, Nat.le_refl _, hid ⟨zt, [y.1], HZ.out.2.1.symm, rfl, ?_, ?_, S9.out.trans' T10.out, Or.inr ⟨y, HZ.out.1, rfl, HZ.out.2.1⟩⟩⟩
            · have := R10.out
              rw [HZ.out.2.1] at this
              exact this
            · exact own_touch O9.out T10.out (fun _ _ e => by cases e)
          case measure => simp [slen]; have := HZ.out.2.2; omega
        · have zlt : (n1 : Int) ≤ (e : Int) := by omega
          have HX : Hid (KwQ w e xs x (.slice a n1 c1) (.slice a2 n2 c2) wr) := hid (by
            rcases hph with ⟨h1, h2⟩ | ⟨y, h1, h2, h3⟩
            · have hp := putL_tail (e := e) (xs := xs) (k := x.1) (v := x.2) (by rw [← HP0.out.1, ← h1]; omega)
              refine ⟨by rw [hp.1, ← HP0.out.1, ← h1]; exact hrn, ?_, TV.out.trans' htt⟩
              rw [hp.2]
              have := own_base (base' := 0) hog (Nat.zero_le _)
              rw [h2] at this e2
              rw [e2] at this ⊢
              exact this
            · have hp := putL_head (e := e) (xs := xs) (k := x.1) (v := x.2) (y := y) (zs := zs) (by rw [← HP0.out.1, h1]; simp; omega) (by rw [← HP0.out.1]; exact h1)
              refine ⟨by rw [hp.1]; exact hrn, ?_, TV.out.trans' htt⟩
              rw [hp.2]
              have := own_base (base' := 0) hog (Nat.zero_le _)
              rw [h2] at this e2
              rw [e2] at this ⊢
              exact this)
          clear HS hrn hog htt hph
          go_wp2_with fail
          exact bodyPost_ret (v := .tuple #[.slice a n1 c1, .bool true, .slice a2 n2 c2]) (by simp [results, Try.results60, go_sem]) rfl ⟨_, _, rfl, HX.out⟩
end Go.Proofs.Ytopepalpmkeffaa
