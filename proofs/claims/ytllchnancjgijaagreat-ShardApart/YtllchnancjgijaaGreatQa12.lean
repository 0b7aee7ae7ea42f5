/- The contract of End; no conditions but those that it states. -/
import Derived.Test.YtllchnancjgijaaGreatQa11
set_option linter.unusedVariables false
set_option linter.unusedSimpArgs false
set_option maxRecDepth 100000
namespace Go.Proofs.YtllchnancjgijaaGreat
open Go.RowKit Go.Maps Go.ChangeMaps
structure Dn where
 R : Ta.Rn
 told : List Int
 cur : Bool
 kept : Bool
 gone : List K
 left : List Int
def Rz : Ta.Rn := ⟨0, 0, ⟨#[]⟩, 0, false⟩
def Dn.z : Dn := ⟨Rz, [], false, false, [], []⟩
def edE (X : Gp) (n r : Int) (o : O) : Int := if tkE X n ≠ 0 then tkE X n else Ta.tEndE X.T r o
def edB (X : Gp) (r : Int) (o : O) : Bool := Ta.tEndC X.T r o && !((Ta.rnOf X.T r).rf && !decide (o.2.1 = 0))
def edK (X : Gp) (r : Int) : K := Ta.kOf (Ta.rnOf X.T r)
def ed1 (X : Gp) (n r : Int) (o : O) : Gp := { X with T := Ta.tEnd X.T r o, now := n, L := Lv.outL 1 r X.L }
def ed2 (X : Gp) (n r : Int) (o : O) : Gp := { ed1 X n r o with mn := Me.kpN X.mn n (edK X r) o, en := Me.kpX X.c X.mn n X.en (edK X r) o }
def edG (X : Gp) (n r : Int) (o : O) : List K := Me.kpG X.c X.mn n X.en (edK X r) o
def edX (X : Gp) (n r : Int) (o : O) : Gp := if edE X n r o ≠ 0 then X else if edB X r o then rlX (ed2 X n r o) (edG X n r o) else ed1 X n r o
def edD (X : Gp) (n r : Int) (o : O) : Dn := if edE X n r o ≠ 0 then Dn.z else if edB X r o then ⟨Ta.rnOf X.T r, Ta.tEndL X.T r o, Ta.tEndC X.T r o, Me.kpB X.c X.mn n (edK X r) o, edG X n r o, rlL (ed2 X n r o) (edG X n r o)⟩ else ⟨Ta.rnOf X.T r, Ta.tEndL X.T r o, Ta.tEndC X.T r o, false, [], []⟩
def edC (X : Gp) (n r : Int) (o : O) (N : Cn) : Cn := if edE X n r o ≠ 0 then N else if edB X r o then { N with t := N.t + (edG X n r o).length } else N
def dcs (D : Dn) (tv gv lv : Value) : Array Value := #[.int .i64 D.R.run, .int .u16 D.R.sp, .string D.R.nm, .int .i64 D.R.gen, .bool D.R.rf, tv, .bool D.cur, .bool D.kept, gv, lv]
def dnz : Array Value := #[.int .i64 0, .int .u16 0, .string ⟨#[]⟩, .int .i64 0, .bool false, .slice none 0 0, .bool false, .bool false, .slice none 0 0, .slice none 0 0]
theorem Tv_keeps {B : Nat} {w w' : World} {v : Value} {xs : List Int} {o : O} (h : Ta.Tv B w v xs o) (hk : Keeps w w') : Ta.Tv B w' v xs o := by
 obtain ⟨a, c, e, h1 | ⟨t, cur, e1, h2, h3, h4⟩⟩ := h
 ·exact ⟨a, c, e, Or.inl h1⟩
 ·exact ⟨a, c, e, Or.inr ⟨t, cur, e1, h2, hk _ _ _ _ (by decide) h3, h4⟩⟩
structure DnQ (w' : World) (D : Dn) (o : O) (tv gv lv : Value) : Prop where
 t : Ta.Tv 0 w' tv D.told o
 g : Me.RT 35 w' gv D.gone
 l : Snt w' lv D.left
theorem DnQ.z (w' : World) (o : O) : DnQ w' Dn.z o (.slice none 0 0) (.slice none 0 0) (.slice none 0 0) := ⟨Ta.Tv.nil _ _ _, Me.RT.nil _ _, Snt.nil _⟩
theorem DnQ.put {w w' : World} {D : Dn} {o : O} {tv gv lv : Value} {k : Nat} {cs : Array Value} {z : Nat × Nat} (h : DnQ w D o tv gv lv) (hb : w.heap[k]? = some (.cells cs 53 z)) (T : Touch [k] w w') : DnQ w' D o tv gv lv := by
 obtain ⟨a, c, e, h1 | ⟨t, cur, e1, h2, h3, h4⟩⟩ := h.t
 ·exact ⟨⟨a, c, e, Or.inl h1⟩, own_touch h.g T (fun b hb' e => by
   obtain ⟨cs', hc⟩ := own_kind h.g hb'
   simp only [List.mem_singleton] at e
   rw [e, hb] at hc
   simp at hc), h.l.put hb (by decide) T⟩
 ·refine ⟨⟨a, c, e, Or.inr ⟨t, cur, e1, h2, T.keep h3 (fun e => ?_), h4⟩⟩, own_touch h.g T (fun b hb' e => by
   obtain ⟨cs', hc⟩ := own_kind h.g hb'
   simp only [List.mem_singleton] at e
   rw [e, hb] at hc
   simp at hc), h.l.put hb (by decide) T⟩
  simp only [List.mem_singleton] at e
  rw [e, hb] at h3
  simp at h3
theorem isf_ (w : World) (o : O) : Calls Tryz.prog 69 #[Me.ov o] w fun e w' => e = .returned (.bool (!decide (o.2.1 = 0))) ∧ Touch [] w w' := by
 unfold Me.ov
 by_cases h : o.2.1 = 0
 ·go_enter Tryz.func69, Tryz.ntmps69
  go_wp2
  go_ret
  exact ⟨by simp [h], by repeat (first | exact Touch.refl _ _ | apply Touch.alloc)⟩
 ·go_enter Tryz.func69, Tryz.ntmps69
  go_wp2
  go_ret
  exact ⟨by simp [h], by repeat (first | exact Touch.refl _ _ | apply Touch.alloc)⟩
theorem edG_len (X : Gp) (n r : Int) (o : O) : (edG X n r o).length ≤ 1 := by
 unfold edG Me.kpG Me.goneL
 split
 ·split <;> simp
 ·simp
structure Bed (w w' : World) (o : O) : Prop where
 o : w'.heap[w.heap.size]? = some (.cells #[.int .i64 o.1, .int .i64 o.2.1, .int .i64 o.2.2.1, .int .i64 o.2.2.2] 39 (0, 0))
 d : w'.heap[w.heap.size + 1]? = some (.cells dnz 53 (0, 0))
theorem Bed.keep {w w1 w2 : World} {o : O} (h : Bed w w1 o) (hk : Keeps w1 w2) : Bed w w2 o := ⟨hk _ _ _ _ (by decide) h.o, hk _ _ _ _ (by decide) h.d⟩
theorem rnOf_ok {T : Ta.Tb} {M : Nat} (h : Ta.Ti T M) {r : Int} (hr : Ta.tEndE T r (0, 0, 0, 0) = Ta.tEndE T r (0, 0, 0, 0)) : Ok (Ta.kOf (Ta.rnOf T r)) := by
 unfold Ta.rnOf
 cases hc : Ta.runOf T r with
 | none => exact ⟨rfl, by unfold maxLen; decide⟩
 | some p => exact h.ok p (Ta.runOf_mem hc).1
theorem dn7 {w : World} {b : Nat} {t : TypeId} {z0 z1 z2 z3 z4 z5 z6 z7 z8 z9 : Value} (h : w.heap[b]? = some (.cells #[z0, z1, z2, z3, z4, z5, z6, z7, z8, z9] t (0, 0))) (v : Value) : (w.setCell ⟨b, 7, none⟩ v).heap[b]? = some (.cells #[z0, z1, z2, z3, z4, z5, z6, v, z8, z9] t (0, 0)) := by simp [World.setCell, Array.getElem?_modify, h]
theorem dn8 {w : World} {b : Nat} {t : TypeId} {z0 z1 z2 z3 z4 z5 z6 z7 z8 z9 : Value} (h : w.heap[b]? = some (.cells #[z0, z1, z2, z3, z4, z5, z6, z7, z8, z9] t (0, 0))) (v : Value) : (w.setCell ⟨b, 8, none⟩ v).heap[b]? = some (.cells #[z0, z1, z2, z3, z4, z5, z6, z7, v, z9] t (0, 0)) := by simp [World.setCell, Array.getElem?_modify, h]
theorem dn9 {w : World} {b : Nat} {t : TypeId} {z0 z1 z2 z3 z4 z5 z6 z7 z8 z9 : Value} (h : w.heap[b]? = some (.cells #[z0, z1, z2, z3, z4, z5, z6, z7, z8, z9] t (0, 0))) (v : Value) : (w.setCell ⟨b, 9, none⟩ v).heap[b]? = some (.cells #[z0, z1, z2, z3, z4, z5, z6, z7, z8, v] t (0, 0)) := by simp [World.setCell, Array.getElem?_modify, h]
theorem RT_box {w w' : World} {v : Value} {xs : List K} {k : Nat} {cs : Array Value} {z : Nat × Nat} (h : Me.RT 35 w v xs) (hb : w.heap[k]? = some (.cells cs 53 z)) (T : Touch [k] w w') : Me.RT 35 w' v xs := own_touch h T (fun b hb' e => by
 obtain ⟨cs', hc⟩ := own_kind h hb'
 simp only [List.mem_singleton] at e
 rw [e, hb] at hc
 simp at hc)
theorem Tv_box {B : Nat} {w w' : World} {v : Value} {xs : List Int} {o : O} {k : Nat} {cs : Array Value} {z : Nat × Nat} (h : Ta.Tv B w v xs o) (hb : w.heap[k]? = some (.cells cs 53 z)) (T : Touch [k] w w') : Ta.Tv B w' v xs o := by
 obtain ⟨a, c, e, h1 | ⟨t, cur, e1, h2, h3, h4⟩⟩ := h
 ·exact ⟨a, c, e, Or.inl h1⟩
 ·refine ⟨a, c, e, Or.inr ⟨t, cur, e1, h2, T.keep h3 (fun e => ?_), h4⟩⟩
  simp only [List.mem_singleton] at e
  rw [e, hb] at h3
  simp at h3
section
variable {w : World} {g : Nat} {P : Pt} {F : List Nat} {X : Gp} {N : Cn}
set_option maxHeartbeats 32000000 in
theorem end_ (h : Gq w g P F X N) (n : Int) {r : Int} (hr : W64 r) (o : O) (hN : N.t ≤ 2900000000000) (hS : N.s ≤ 4400000000000) : Calls Tryz.prog 29 #[PT g, .int .i64 n, .int .i64 r, Me.ov o] w fun e w' => ∃ tv gv lv, e = .returned (.tuple #[.agg (dcs (edD X n r o) tv gv lv), .int .i64 (edE X n r o)]) ∧ DnQ w' (edD X n r o) o tv gv lv ∧ GqE w w' g P F (edX X n r o) (edC X n r o N) := by
 obtain ⟨V, hV⟩ : ∃ V, V = (w.alloc (.cells #[.int .i64 o.1, .int .i64 o.2.1, .int .i64 o.2.2.1, .int .i64 o.2.2.2] 39)).alloc (.cells dnz 53) := ⟨_, rfl⟩
 have tv : Touch [] w V := by rw [hV]; exact ((Touch.refl _ _).alloc _).alloc _
 have hb : Bed w V o := by
  constructor
  ·rw [hV]; exact ((Touch.refl [] _).alloc _).keep (heap_alloc_new w _) (by simp)
  ·rw [hV]
   have := heap_alloc_new (w.alloc (.cells #[.int .i64 o.1, .int .i64 o.2.1, .int .i64 o.2.2.1, .int .i64 o.2.2.2] 39)) (.cells dnz 53)
   rwa [World.size_alloc] at this
 have Q0 : GqE w V g P F X N := GqE.same h tv
 have HC := hid (check_at Q0 n)
 obtain ⟨R, hR⟩ : ∃ R, R = Ta.rnOf X.T r := ⟨_, rfl⟩
 have hkR : Ok (Ta.kOf R) := by rw [hR]; exact rnOf_ok h.iv.2.1 rfl
 have HRn : Hid (Calls Tryz.prog 66 #[PT P.t, .int .i64 r] V fun e w2 => (∃ B, e = .returned (.tuple #[Ta.rv R, .bool B])) ∧ GqE w w2 g P F X N ∧ Bed w w2 o) := hid (by rw [hR]; exact (trun_at Q0 (by omega) hr).mono (fun e w2 hh => ⟨⟨_, hh.1⟩, hh.2.1, hb.keep hh.2.2⟩))
 have HA : Hid (∀ w1 Y M ob, GqE w w1 g P F Y M → Bed w w1 o → GqE w (w1.alloc ob) g P F Y M ∧ Bed w (w1.alloc ob) o ∧ Keeps w1 (w1.alloc ob)) := hid (fun w1 Y M ob Q B => ⟨Q.then0 ((Touch.refl _ _).alloc ob), B.keep ((Touch.refl [] _).alloc ob).keeps, ((Touch.refl [] _).alloc ob).keeps⟩)
 have HE : Hid (∀ w1, GqE w w1 g P F X N → Bed w w1 o → Calls Tryz.prog 67 #[PT P.t, .int .i64 r, Me.ov o] w1.drew fun e w2 => ∃ a m c, e = .returned (.tuple #[.slice a m c, .bool (Ta.tEndC X.T r o), .int .i64 (Ta.tEndE X.T r o)]) ∧ Ta.Tv 0 w2 (.slice a m c) (Ta.tEndL X.T r o) o ∧ GqE w w2 g P F { X with T := Ta.tEnd X.T r o } N ∧ Bed w w2 o ∧ Keeps w1 w2) := hid (fun w1 Q B => by
  refine (tend_at (Q.then0 (Touch.refl _ _).drew) (by omega) o hr).mono ?_
  rintro e w2 ⟨v, e1, e2, e3, e4⟩
  have e2' := e2
  obtain ⟨a, c, rfl, _⟩ := e2'
  exact ⟨a, _, c, e1, Ta.Tv.low e2 (Nat.zero_le _), e3, (B.keep ((Touch.refl [] w1).drew).keeps).keep e4, (((Touch.refl [] w1).drew).keeps).trans e4⟩)
 have HEX : Hid (tkE X n = 0 → Ta.tEndE X.T r o ≠ 0 → ({ X with T := Ta.tEnd X.T r o } : Gp) = X) := hid (fun _ e => by
  have : Ta.tEnd X.T r o = X.T := by
   unfold Ta.tEndE at e
   unfold Ta.tEnd
   cases hc : Ta.runOf X.T r with
   | none => rfl
   | some p =>
    rw [hc] at e
    simp only at e ⊢
    rw [if_neg e]
  rw [this])
 have HW : Hid (∀ w1, GqE w w1 g P F { X with T := Ta.tEnd X.T r o } N → Bed w w1 o → GqE w (w1.setCell ⟨g, 4, none⟩ (.int .i64 n)) g P F { X with T := Ta.tEnd X.T r o, now := n } N ∧ Bed w (w1.setCell ⟨g, 4, none⟩ (.int .i64 n)) o ∧ Keeps w1 (w1.setCell ⟨g, 4, none⟩ (.int .i64 n))) := hid (fun w1 Q B => ⟨(Q.setNow n).1, B.keep (Q.setNow n).2, (Q.setNow n).2⟩)
 have HSE : Hid (∀ w1, GqE w w1 g P F { X with T := Ta.tEnd X.T r o, now := n } N → Bed w w1 o → Calls Tryz.prog 68 #[PT P.s, .int .i64 r] w1 fun e w2 => (∃ a m c, e = .returned (.slice a m c)) ∧ GqE w w2 g P F (ed1 X n r o) N ∧ Bed w w2 o ∧ Keeps w1 w2) := hid (fun w1 Q B => (send_at Q hS hr).mono (fun e w2 hh => ⟨hh.1, hh.2.1, B.keep hh.2.2, hh.2.2⟩))
 have HIF : Hid (∀ w1, Calls Tryz.prog 69 #[Me.ov o] w1 fun e w2 => e = .returned (.bool (!decide (o.2.1 = 0))) ∧ Touch [] w1 w2) := hid (fun w1 => isf_ w1 o)
 have HT0 : Hid (∀ w1 w2 Y M, GqE w w1 g P F Y M → Bed w w1 o → Touch [] w1 w2 → GqE w w2 g P F Y M ∧ Bed w w2 o ∧ Keeps w1 w2) := hid (fun w1 w2 Y M Q B T => ⟨Q.then0 T, B.keep T.keeps, T.keeps⟩)
 have heK : edK X r = Ta.kOf R := by unfold edK; rw [hR]
 have HKP : Hid (∀ w1, GqE w w1 g P F (ed1 X n r o) N → Bed w w1 o → Calls Tryz.prog 70 #[PT P.m, .int .i64 n, kv (Ta.kOf R), Me.ov o] w1.drew fun e w2 => ∃ a m c E, e = .returned (.tuple #[.bool (Me.kpB X.c X.mn n (edK X r) o), .slice a m c, .int .i64 E]) ∧ Me.RT 35 w2 (.slice a m c) (edG X n r o) ∧ (∀ k ∈ edG X n r o, Ok k) ∧ GqE w w2 g P F (ed2 X n r o) N ∧ Bed w w2 o ∧ Keeps w1 w2) := hid (fun w1 Q B => by
  obtain ⟨Fm, hm, hs⟩ := (Q.then0 (Touch.refl _ _).drew).memo
  refine (Me.keepM w1.drew P.m Fm X.c X.mn n X.en hm (Ta.kOf R) hkR o).mono ?_
  rintro e w2 ⟨u, e1, e2, e3⟩
  obtain ⟨a, c, rfl, _⟩ := e2.form
  have z := hs _ _ _ e3
  rw [← heK] at e1 e2 z
  refine ⟨a, _, c, _, e1, e2, fun k hk => ?_, z.1, (B.keep ((Touch.refl [] w1).drew).keeps).keep z.2.1, (((Touch.refl [] w1).drew).keeps).trans z.2.1⟩
  unfold edG Me.kpG at hk
  split at hk
  ·unfold Me.goneL at hk
   split at hk
   ·rename_i hu
    simp only [List.mem_singleton] at hk
    rw [hk]
    unfold Me.useG
    rw [if_pos hu]
    have hall : ∀ q ∈ Me.useY (Me.keysL X.en) (edK X r), Ok q := fun q hq => by
     unfold Me.useY at hq
     rcases List.mem_append.1 hq with h1 | h1
     ·exact hm.ok q (List.mem_filter.1 h1).1
     ·simp only [List.mem_singleton] at h1
      rw [h1, heK]
      exact hkR
    cases hy : Me.useY (Me.keysL X.en) (edK X r) with
    | nil => exact ⟨rfl, by unfold maxLen; decide⟩
    | cons q l => exact hall q (by rw [hy]; simp)
   ·cases hk
  ·cases hk)
 have HRL : Hid (∀ w1 v, GqE w w1 g P F (ed2 X n r o) N → Bed w w1 o → Me.RT 35 w1 v (edG X n r o) → (∀ k ∈ edG X n r o, Ok k) → Calls Tryz.prog 71 #[PT g, v] w1 fun e w2 => ∃ a m c, e = .returned (.slice a m c) ∧ Snt w2 (.slice a m c) (rlL (ed2 X n r o) (edG X n r o)) ∧ GqE w w2 g P F (rlX (ed2 X n r o) (edG X n r o)) { N with t := N.t + (edG X n r o).length } ∧ Bed w w2 o ∧ Keeps w1 w2) := hid (fun w1 v Q B R ok => by
  obtain ⟨F1, q1, q2⟩ := Q.go
  refine (release_ q1 v _ R (edG_len X n r o) ok hN).mono ?_
  rintro e w2 ⟨v', e1, e2, e3⟩
  obtain ⟨a, m, c, rfl⟩ := e2.2
  exact ⟨a, m, c, e1, e2, (q2 _ _ _ e3).1, B.keep (q2 _ _ _ e3).2, (q2 _ _ _ e3).2⟩)
 have HP : Hid (∀ b cs w2 w3 Y M, w.heap.size + 2 ≤ b → w2.heap[b]? = some (.cells cs 53 (0, 0)) → GqE w w2 g P F Y M → Bed w w2 o → Touch [b] w2 w3 → GqE w w3 g P F Y M ∧ Bed w w3 o) := hid (fun b cs w2 w3 Y M hz hb Q B T => ⟨Q.put hb (by decide) (by omega) T, ⟨T.keep B.o (by simp; omega), T.keep B.d (by simp; omega)⟩⟩)
 have HF : Hid (∀ w2 w3 Y M D tv gv lv, GqE w w2 g P F Y M → Bed w w2 o → DnQ w2 D o tv gv lv → Touch [w.heap.size + 1] w2 w3 → DnQ w3 D o tv gv lv ∧ GqE w w3 g P F Y M) := hid (fun w2 w3 Y M D tv gv lv Q B q T => ⟨q.put B.d T, Q.put B.d (by decide) (by omega) T⟩)
 have HB : Hid (∀ w2, Bed w w2 o → (w2.cell? ⟨w.heap.size, 0, none⟩ = some (.int .i64 o.1) ∧ w2.cell? ⟨w.heap.size, 1, none⟩ = some (.int .i64 o.2.1) ∧ w2.cell? ⟨w.heap.size, 2, none⟩ = some (.int .i64 o.2.2.1) ∧ w2.cell? ⟨w.heap.size, 3, none⟩ = some (.int .i64 o.2.2.2)) ∧ w2.heap[w.heap.size + 1]? = some (.cells dnz 53 (0, 0)) ∧ w.heap.size + 2 ≤ w2.heap.size) := hid (fun w2 B => ⟨⟨cell_at B.o rfl, cell_at B.o rfl, cell_at B.o rfl, cell_at B.o rfl⟩, B.d, by have := block_lt B.d; omega⟩)
 have HG : Hid (∀ w1 Y M, GqE w w1 g P F Y M → GmC w1 g P Y.now) := hid (fun w1 Y M Q => Q.cs)
 have HQ := hid Q0
 have HBV := hid hb
 have HZ : Hid (∀ w2, DnQ w2 Dn.z o (.slice none 0 0) (.slice none 0 0) (.slice none 0 0)) := hid (fun w2 => DnQ.z w2 o)
 clear h Q0 tv hb hr hN hS hkR heK
 have hE : edE X n r o = if tkE X n ≠ 0 then tkE X n else Ta.tEndE X.T r o := rfl
 have hBB : edB X r o = (Ta.tEndC X.T r o && !(R.rf && !decide (o.2.1 = 0))) := by unfold edB; rw [hR]
 unfold edX edD edC
 rw [← hR]
 clear hR
 unfold dnz at hV HB
 unfold dcs
 by_cases hz : tkE X n ≠ 0
 ·rw [if_pos hz] at hE
  rw [hE, if_pos hz, if_pos hz, if_pos hz]
  have hz' : (tkE X n != 0) = true := by simp [hz]
  clear HRn HE HEX HW HSE HIF HKP HRL hz hE hBB
  generalize tkE X n = E at *
  obtain ⟨-, hbj, -⟩ := HB.out _ HBV.out
  have z1 : Dn.z.R = Rz := rfl
  have z2 : Dn.z.cur = false := rfl
  have z3 : Dn.z.kept = false := rfl
  rw [z1, z2, z3]
  clear z1 z2 z3
  unfold Rz
  unfold Me.ov PT at *
  have d0 := cell_at (j := 0) hbj rfl
  have d1 := cell_at (j := 1) hbj rfl
  have d2 := cell_at (j := 2) hbj rfl
  have d3 := cell_at (j := 3) hbj rfl
  have d4 := cell_at (j := 4) hbj rfl
  have d5 := cell_at (j := 5) hbj rfl
  have d6 := cell_at (j := 6) hbj rfl
  have d7 := cell_at (j := 7) hbj rfl
  have d8 := cell_at (j := 8) hbj rfl
  have d9 := cell_at (j := 9) hbj rfl
  have df := froz_at hbj
  clear hbj
  go_enter Tryz.func29, Tryz.ntmps29
  go_upto_region 1 with fail
  rw [← hV]
  clear hV
  go_wp2_with (go_at_call 59; refine HC.out.mono ?_; rintro e w1 ⟨rfl, rfl⟩)
  exact bodyPost_ret (v := .tuple #[.agg #[.int .i64 0, .int .u16 0, .string ⟨#[]⟩, .int .i64 0, .bool false, .slice none 0 0, .bool false, .bool false, .slice none 0 0, .slice none 0 0], .int .i64 E]) (by simp [results, Tryz.results29, go_sem, d0, d1, d2, d3, d4, d5, d6, d7, d8, d9]) rfl ⟨_, _, _, rfl, HF.out _ _ _ _ _ _ _ _ HQ.out HBV.out (HZ.out _) (((((((((((Touch.refl _ _).setCell (Or.inl (by simp)) _).setCell (Or.inl (by simp)) _).setCell (Or.inl (by simp)) _).setCell (Or.inl (by simp)) _).setCell (Or.inl (by simp)) _).setCell (Or.inl (by simp)) _).setCell (Or.inl (by simp)) _).setCell (Or.inl (by simp)) _).setCell (Or.inl (by simp)) _).setCell (Or.inl (by simp)) _)⟩
 ·rw [if_neg hz] at hE
  have hz0 : tkE X n = 0 := by simpa using hz
  rw [hz0] at HC
  rw [hE]
  by_cases he : Ta.tEndE X.T r o ≠ 0
  ·rw [if_pos he, if_pos he, if_pos he]
   have hx := HEX.out hz0 he
   rw [hx] at HE
   have he' : (Ta.tEndE X.T r o != 0) = true := by simp [he]
   clear HEX HW HSE HIF HKP HRL hz hz0 hE hBB he hx
   generalize Ta.tEndE X.T r o = E at *
   generalize Ta.tEndC X.T r o = C at *
   unfold Ta.rv at HRn
   unfold Me.ov PT at *
   have z1 : Dn.z.R = Rz := rfl
   have z2 : Dn.z.cur = false := rfl
   have z3 : Dn.z.kept = false := rfl
   rw [z1, z2, z3]
   clear z1 z2 z3
   unfold Rz
   go_enter Tryz.func29, Tryz.ntmps29
   go_upto_region 1 with fail
   rw [← hV]
   clear hV
   have c1 := (HG.out _ _ _ HQ.out).c1
   go_upto_region 5 with (first
   | (go_at_call 59; refine HC.out.mono ?_; rintro e w1 ⟨rfl, rfl⟩)
   | (go_at_call 66; refine HRn.out.mono ?_; rintro e w2 ⟨⟨B, rfl⟩, q2, b2⟩; have Q2 := hid q2; have B2 := hid b2; clear q2 b2 c1))
   obtain ⟨W3, hW3⟩ : ∃ W3, W3 = w2.alloc (.cells #[.int .i64 R.run, .int .u16 R.sp, .string R.nm, .int .i64 R.gen, .bool R.rf] 49) := ⟨_, rfl⟩
   have h11 := heap_alloc_new w2 (.cells #[.int .i64 R.run, .int .u16 R.sp, .string R.nm, .int .i64 R.gen, .bool R.rf] 49)
   obtain ⟨q3, b3, -⟩ := HA.out _ _ _ (.cells #[.int .i64 R.run, .int .u16 R.sp, .string R.nm, .int .i64 R.gen, .bool R.rf] 49) Q2.out B2.out
   rw [← hW3] at h11 q3 b3 ⊢
   have Z11 := hid (HB.out _ B2.out).2.2
   have Q3 := hid q3
   have B3 := hid b3
   have H11 := hid h11
   clear hW3 q3 b3 h11
   have s0 : GmC W3.drew g P X.now ∧ _ := ⟨HG.out _ _ _ (Q3.out.then0 (Touch.refl _ _).drew), (HB.out _ (B3.out.keep ((Touch.refl [] W3).drew).keeps)).1⟩
   have C1 : ∀ w', (GmC w' g P X.now ∧ (w'.cell? ⟨w.heap.size, 0, none⟩ = some (.int .i64 o.1) ∧ w'.cell? ⟨w.heap.size, 1, none⟩ = some (.int .i64 o.2.1) ∧ w'.cell? ⟨w.heap.size, 2, none⟩ = some (.int .i64 o.2.2.1) ∧ w'.cell? ⟨w.heap.size, 3, none⟩ = some (.int .i64 o.2.2.2))) → w'.cell? ⟨g, 1, none⟩ = some (.pointer (some ⟨P.t, 0, none⟩)) := fun _ h => h.1.c1
   have O0 : ∀ w', (GmC w' g P X.now ∧ (w'.cell? ⟨w.heap.size, 0, none⟩ = some (.int .i64 o.1) ∧ w'.cell? ⟨w.heap.size, 1, none⟩ = some (.int .i64 o.2.1) ∧ w'.cell? ⟨w.heap.size, 2, none⟩ = some (.int .i64 o.2.2.1) ∧ w'.cell? ⟨w.heap.size, 3, none⟩ = some (.int .i64 o.2.2.2))) → w'.cell? ⟨w.heap.size, 0, none⟩ = some (.int .i64 o.1) := fun _ h => h.2.1
   have O1 : ∀ w', (GmC w' g P X.now ∧ (w'.cell? ⟨w.heap.size, 0, none⟩ = some (.int .i64 o.1) ∧ w'.cell? ⟨w.heap.size, 1, none⟩ = some (.int .i64 o.2.1) ∧ w'.cell? ⟨w.heap.size, 2, none⟩ = some (.int .i64 o.2.2.1) ∧ w'.cell? ⟨w.heap.size, 3, none⟩ = some (.int .i64 o.2.2.2))) → w'.cell? ⟨w.heap.size, 1, none⟩ = some (.int .i64 o.2.1) := fun _ h => h.2.2.1
   have O2 : ∀ w', (GmC w' g P X.now ∧ (w'.cell? ⟨w.heap.size, 0, none⟩ = some (.int .i64 o.1) ∧ w'.cell? ⟨w.heap.size, 1, none⟩ = some (.int .i64 o.2.1) ∧ w'.cell? ⟨w.heap.size, 2, none⟩ = some (.int .i64 o.2.2.1) ∧ w'.cell? ⟨w.heap.size, 3, none⟩ = some (.int .i64 o.2.2.2))) → w'.cell? ⟨w.heap.size, 2, none⟩ = some (.int .i64 o.2.2.1) := fun _ h => h.2.2.2.1
   have O3 : ∀ w', (GmC w' g P X.now ∧ (w'.cell? ⟨w.heap.size, 0, none⟩ = some (.int .i64 o.1) ∧ w'.cell? ⟨w.heap.size, 1, none⟩ = some (.int .i64 o.2.1) ∧ w'.cell? ⟨w.heap.size, 2, none⟩ = some (.int .i64 o.2.2.1) ∧ w'.cell? ⟨w.heap.size, 3, none⟩ = some (.int .i64 o.2.2.2))) → w'.cell? ⟨w.heap.size, 3, none⟩ = some (.int .i64 o.2.2.2) := fun _ h => h.2.2.2.2
   refine wp_region_H (S := fun w' => GmC w' g P X.now ∧ (w'.cell? ⟨w.heap.size, 0, none⟩ = some (.int .i64 o.1) ∧ w'.cell? ⟨w.heap.size, 1, none⟩ = some (.int .i64 o.2.1) ∧ w'.cell? ⟨w.heap.size, 2, none⟩ = some (.int .i64 o.2.2.1) ∧ w'.cell? ⟨w.heap.size, 3, none⟩ = some (.int .i64 o.2.2.2))) (by kernel_rfl) ?_
   refine wpH_take (i := 0) (v := (.pointer (some ⟨g, 0, none⟩))) (some 35) rfl rfl (by kernel_rfl) (by kernel_rfl) (by kernel_rfl) (fun _ _ _ h => h) (Or.inl ⟨by rfl, fun w' hS => (by go_simp)⟩) s0 ?_
   try simp only [Go.Act.put, Zx, Zy, Zz]
   refine wpH_take (i := 1) (v := (.pointer (some ⟨g, 0, none⟩))) (some 36) rfl rfl (by kernel_rfl) (by kernel_rfl) (by kernel_rfl) (fun _ _ _ h => h) (Or.inl ⟨by rfl, fun w' hS => (by go_simp)⟩) s0 ?_
   try simp only [Go.Act.put, Zx, Zy, Zz]
   refine wpH_take (i := 2) (v := (.pointer (some ⟨g, 0, none⟩))) (some 37) rfl rfl (by kernel_rfl) (by kernel_rfl) (by kernel_rfl) (fun _ _ _ h => h) (Or.inl ⟨by rfl, fun w' hS => (by go_simp)⟩) s0 ?_
   try simp only [Go.Act.put, Zx, Zy, Zz]
   refine wpH_take (i := 3) (v := (.pointer (some ⟨g, 1, none⟩))) (some 38) rfl rfl (by kernel_rfl) (by kernel_rfl) (by kernel_rfl) (fun _ _ _ h => h) (Or.inl ⟨by rfl, fun w' hS => (by go_simp)⟩) s0 ?_
   try simp only [Go.Act.put, Zx, Zy, Zz]
   refine wpH_take (i := 4) (v := (.pointer (some ⟨P.t, 0, none⟩))) (some 39) rfl rfl (by kernel_rfl) (by kernel_rfl) (by kernel_rfl) (fun _ _ _ h => h) (Or.inl ⟨by rfl, fun w' hS => (by have z0 := C1 _ hS; go_simp)⟩) s0 ?_
   try simp only [Go.Act.put, Zx, Zy, Zz]
   refine wpH_take (i := 5) (v := (.int .i64 r)) (some 40) rfl rfl (by kernel_rfl) (by kernel_rfl) (by kernel_rfl) (fun _ _ _ h => h) (Or.inl ⟨by rfl, fun w' hS => (by go_simp)⟩) s0 ?_
   try simp only [Go.Act.put, Zx, Zy, Zz]
   refine wpH_take (i := 6) (v := (.agg #[.int .i64 o.1, .int .i64 o.2.1, .int .i64 o.2.2.1, .int .i64 o.2.2.2])) (some 41) rfl rfl (by kernel_rfl) (by kernel_rfl) (by kernel_rfl) (fun _ _ _ h => h) (Or.inl ⟨by rfl, fun w' hS => (by have z0 := O0 _ hS; have z1 := O1 _ hS; have z2 := O2 _ hS; have z3 := O3 _ hS; go_simp)⟩) s0 ?_
   try simp only [Go.Act.put, Zx, Zy, Zz]
   refine wpH_call (i := 7) (o := { dst := some 42, op := Op.call { callee := Callee.value (Operand.func 67), args := #[Operand.tmp 39, Operand.tmp 40, Operand.tmp 41], argTypes := #[103, 3, 39] }, type := 149, pos := _, after := #[{ on := 4, ground := Ground.data }, { on := 5, ground := Ground.data }, { on := 6, ground := Ground.data }], guard := none }) (by kernel_rfl) rfl (fun K' hK => ?_)
   rw [if_pos (by rfl)]
   go_simp
   refine (HE.out _ Q3.out B3.out).mono ?_
   rintro e w4 ⟨ta, tm, tc, rfl, v4, q4, b4, k4⟩
   have gq := HG.out _ _ _ q4
   have s4 : GmC w4 g P X.now ∧ _ := ⟨gq, (HB.out _ b4).1⟩
   clear gq
   have H11 := hid (k4 _ _ _ _ (by decide) H11.out)
   have V4 := hid v4
   have Q4 := hid q4
   have B4 := hid b4
   clear v4 q4 b4 k4
   refine hK.out _ _ s4 ?_
   clear hK
   try simp only [Go.Act.put, Zx, Zy, Zz]
   refine wpH_take (i := 8) (v := (.tuple #[(.slice ta tm tc), (.bool C), (.int .i64 E)])) (some 34) rfl rfl (by kernel_rfl) (by kernel_rfl) (by kernel_rfl) (fun _ _ _ h => h) (Or.inl ⟨by rfl, fun w' hS => (by go_simp)⟩) s4 ?_
   try simp only [Go.Act.put, Zx, Zy, Zz]
   refine wpH_take (i := 9) (v := (.slice ta tm tc)) (some 43) rfl rfl (by kernel_rfl) (by kernel_rfl) (by kernel_rfl) (fun _ _ _ h => h) (Or.inl ⟨by rfl, fun w' hS => (by go_simp)⟩) s4 ?_
   try simp only [Go.Act.put, Zx, Zy, Zz]
   refine wpH_take (i := 10) (v := (.bool C)) (some 44) rfl rfl (by kernel_rfl) (by kernel_rfl) (by kernel_rfl) (fun _ _ _ h => h) (Or.inl ⟨by rfl, fun w' hS => (by go_simp)⟩) s4 ?_
   try simp only [Go.Act.put, Zx, Zy, Zz]
   refine wpH_take (i := 11) (v := (.int .i64 E)) (some 45) rfl rfl (by kernel_rfl) (by kernel_rfl) (by kernel_rfl) (fun _ _ _ h => h) (Or.inl ⟨by rfl, fun w' hS => (by go_simp)⟩) s4 ?_
   try simp only [Go.Act.put, Zx, Zy, Zz]
   refine wpH_take (i := 12) (v := (.slice ta tm tc)) (some 13) rfl rfl (by kernel_rfl) (by kernel_rfl) (by kernel_rfl) (fun _ _ _ h => h) (Or.inl ⟨by rfl, fun w' hS => (by go_simp)⟩) s4 ?_
   try simp only [Go.Act.put, Zx, Zy, Zz]
   refine wpH_take (i := 13) (v := (.bool C)) (some 14) rfl rfl (by kernel_rfl) (by kernel_rfl) (by kernel_rfl) (fun _ _ _ h => h) (Or.inl ⟨by rfl, fun w' hS => (by go_simp)⟩) s4 ?_
   try simp only [Go.Act.put, Zx, Zy, Zz]
   refine wpH_take (i := 14) (v := (.int .i64 E)) (some 15) rfl rfl (by kernel_rfl) (by kernel_rfl) (by kernel_rfl) (fun _ _ _ h => h) (Or.inl ⟨by rfl, fun w' hS => (by go_simp)⟩) s4 ?_
   try simp only [Go.Act.put, Zx, Zy, Zz]
   refine wpAnyH_done (by kernel_rfl) ?_ _
   clear C1 O0 O1 O2 O3 s0 s4
   obtain ⟨-, hbj, -⟩ := HB.out _ B4.out
   have d0 := cell_at (j := 0) hbj rfl
   have d1 := cell_at (j := 1) hbj rfl
   have d2 := cell_at (j := 2) hbj rfl
   have d3 := cell_at (j := 3) hbj rfl
   have d4 := cell_at (j := 4) hbj rfl
   have d5 := cell_at (j := 5) hbj rfl
   have d6 := cell_at (j := 6) hbj rfl
   have d7 := cell_at (j := 7) hbj rfl
   have d8 := cell_at (j := 8) hbj rfl
   have d9 := cell_at (j := 9) hbj rfl
   have df := froz_at hbj
   clear hbj
   go_wp2
   exact bodyPost_ret (v := .tuple #[.agg #[.int .i64 0, .int .u16 0, .string ⟨#[]⟩, .int .i64 0, .bool false, .slice none 0 0, .bool false, .bool false, .slice none 0 0, .slice none 0 0], .int .i64 E]) (by simp [results, Tryz.results29, go_sem, d0, d1, d2, d3, d4, d5, d6, d7, d8, d9]) rfl ⟨_, _, _, rfl, HF.out _ _ _ _ _ _ _ _ Q4.out B4.out (HZ.out _) (((((((((((Touch.refl _ _).setCell (Or.inl (by simp)) _).setCell (Or.inl (by simp)) _).setCell (Or.inl (by simp)) _).setCell (Or.inl (by simp)) _).setCell (Or.inl (by simp)) _).setCell (Or.inl (by simp)) _).setCell (Or.inl (by simp)) _).setCell (Or.inl (by simp)) _).setCell (Or.inl (by simp)) _).setCell (Or.inl (by simp)) _)⟩
  ·have he0 : Ta.tEndE X.T r o = 0 := by simpa using he
   rw [if_neg he, if_neg he, if_neg he, he0]
   rw [he0] at HE
   clear HEX hz hz0 hE he he0
   rw [hBB]
   clear hBB
   cases hC : Ta.tEndC X.T r o with
   | false =>
    rw [hC] at HE
    simp only [Bool.false_and, Bool.false_eq_true, if_false]
    clear HIF HKP HRL hC HZ
    unfold Ta.rv at HRn
    unfold Me.ov PT at *
    go_enter Tryz.func29, Tryz.ntmps29
    go_upto_region 1 with fail
    rw [← hV]
    clear hV
    have c1 := (HG.out _ _ _ HQ.out).c1
    go_upto_region 5 with (first
   | (go_at_call 59; refine HC.out.mono ?_; rintro e w1 ⟨rfl, rfl⟩)
   | (go_at_call 66; refine HRn.out.mono ?_; rintro e w2 ⟨⟨B, rfl⟩, q2, b2⟩; have Q2 := hid q2; have B2 := hid b2; clear q2 b2 c1))
    obtain ⟨W3, hW3⟩ : ∃ W3, W3 = w2.alloc (.cells #[.int .i64 R.run, .int .u16 R.sp, .string R.nm, .int .i64 R.gen, .bool R.rf] 49) := ⟨_, rfl⟩
    have h11 := heap_alloc_new w2 (.cells #[.int .i64 R.run, .int .u16 R.sp, .string R.nm, .int .i64 R.gen, .bool R.rf] 49)
    obtain ⟨q3, b3, -⟩ := HA.out _ _ _ (.cells #[.int .i64 R.run, .int .u16 R.sp, .string R.nm, .int .i64 R.gen, .bool R.rf] 49) Q2.out B2.out
    rw [← hW3] at h11 q3 b3 ⊢
    have Z11 := hid (HB.out _ B2.out).2.2
    have Q3 := hid q3
    have B3 := hid b3
    have H11 := hid h11
    clear hW3 q3 b3 h11
    have s0 : GmC W3.drew g P X.now ∧ _ := ⟨HG.out _ _ _ (Q3.out.then0 (Touch.refl _ _).drew), (HB.out _ (B3.out.keep ((Touch.refl [] W3).drew).keeps)).1⟩
    have C1 : ∀ w', (GmC w' g P X.now ∧ (w'.cell? ⟨w.heap.size, 0, none⟩ = some (.int .i64 o.1) ∧ w'.cell? ⟨w.heap.size, 1, none⟩ = some (.int .i64 o.2.1) ∧ w'.cell? ⟨w.heap.size, 2, none⟩ = some (.int .i64 o.2.2.1) ∧ w'.cell? ⟨w.heap.size, 3, none⟩ = some (.int .i64 o.2.2.2))) → w'.cell? ⟨g, 1, none⟩ = some (.pointer (some ⟨P.t, 0, none⟩)) := fun _ h => h.1.c1
    have O0 : ∀ w', (GmC w' g P X.now ∧ (w'.cell? ⟨w.heap.size, 0, none⟩ = some (.int .i64 o.1) ∧ w'.cell? ⟨w.heap.size, 1, none⟩ = some (.int .i64 o.2.1) ∧ w'.cell? ⟨w.heap.size, 2, none⟩ = some (.int .i64 o.2.2.1) ∧ w'.cell? ⟨w.heap.size, 3, none⟩ = some (.int .i64 o.2.2.2))) → w'.cell? ⟨w.heap.size, 0, none⟩ = some (.int .i64 o.1) := fun _ h => h.2.1
    have O1 : ∀ w', (GmC w' g P X.now ∧ (w'.cell? ⟨w.heap.size, 0, none⟩ = some (.int .i64 o.1) ∧ w'.cell? ⟨w.heap.size, 1, none⟩ = some (.int .i64 o.2.1) ∧ w'.cell? ⟨w.heap.size, 2, none⟩ = some (.int .i64 o.2.2.1) ∧ w'.cell? ⟨w.heap.size, 3, none⟩ = some (.int .i64 o.2.2.2))) → w'.cell? ⟨w.heap.size, 1, none⟩ = some (.int .i64 o.2.1) := fun _ h => h.2.2.1
    have O2 : ∀ w', (GmC w' g P X.now ∧ (w'.cell? ⟨w.heap.size, 0, none⟩ = some (.int .i64 o.1) ∧ w'.cell? ⟨w.heap.size, 1, none⟩ = some (.int .i64 o.2.1) ∧ w'.cell? ⟨w.heap.size, 2, none⟩ = some (.int .i64 o.2.2.1) ∧ w'.cell? ⟨w.heap.size, 3, none⟩ = some (.int .i64 o.2.2.2))) → w'.cell? ⟨w.heap.size, 2, none⟩ = some (.int .i64 o.2.2.1) := fun _ h => h.2.2.2.1
    have O3 : ∀ w', (GmC w' g P X.now ∧ (w'.cell? ⟨w.heap.size, 0, none⟩ = some (.int .i64 o.1) ∧ w'.cell? ⟨w.heap.size, 1, none⟩ = some (.int .i64 o.2.1) ∧ w'.cell? ⟨w.heap.size, 2, none⟩ = some (.int .i64 o.2.2.1) ∧ w'.cell? ⟨w.heap.size, 3, none⟩ = some (.int .i64 o.2.2.2))) → w'.cell? ⟨w.heap.size, 3, none⟩ = some (.int .i64 o.2.2.2) := fun _ h => h.2.2.2.2
    refine wp_region_H (S := fun w' => GmC w' g P X.now ∧ (w'.cell? ⟨w.heap.size, 0, none⟩ = some (.int .i64 o.1) ∧ w'.cell? ⟨w.heap.size, 1, none⟩ = some (.int .i64 o.2.1) ∧ w'.cell? ⟨w.heap.size, 2, none⟩ = some (.int .i64 o.2.2.1) ∧ w'.cell? ⟨w.heap.size, 3, none⟩ = some (.int .i64 o.2.2.2))) (by kernel_rfl) ?_
    refine wpH_take (i := 0) (v := (.pointer (some ⟨g, 0, none⟩))) (some 35) rfl rfl (by kernel_rfl) (by kernel_rfl) (by kernel_rfl) (fun _ _ _ h => h) (Or.inl ⟨by rfl, fun w' hS => (by go_simp)⟩) s0 ?_
    try simp only [Go.Act.put, Zx, Zy, Zz]
    refine wpH_take (i := 1) (v := (.pointer (some ⟨g, 0, none⟩))) (some 36) rfl rfl (by kernel_rfl) (by kernel_rfl) (by kernel_rfl) (fun _ _ _ h => h) (Or.inl ⟨by rfl, fun w' hS => (by go_simp)⟩) s0 ?_
    try simp only [Go.Act.put, Zx, Zy, Zz]
    refine wpH_take (i := 2) (v := (.pointer (some ⟨g, 0, none⟩))) (some 37) rfl rfl (by kernel_rfl) (by kernel_rfl) (by kernel_rfl) (fun _ _ _ h => h) (Or.inl ⟨by rfl, fun w' hS => (by go_simp)⟩) s0 ?_
    try simp only [Go.Act.put, Zx, Zy, Zz]
    refine wpH_take (i := 3) (v := (.pointer (some ⟨g, 1, none⟩))) (some 38) rfl rfl (by kernel_rfl) (by kernel_rfl) (by kernel_rfl) (fun _ _ _ h => h) (Or.inl ⟨by rfl, fun w' hS => (by go_simp)⟩) s0 ?_
    try simp only [Go.Act.put, Zx, Zy, Zz]
    refine wpH_take (i := 4) (v := (.pointer (some ⟨P.t, 0, none⟩))) (some 39) rfl rfl (by kernel_rfl) (by kernel_rfl) (by kernel_rfl) (fun _ _ _ h => h) (Or.inl ⟨by rfl, fun w' hS => (by have z0 := C1 _ hS; go_simp)⟩) s0 ?_
    try simp only [Go.Act.put, Zx, Zy, Zz]
    refine wpH_take (i := 5) (v := (.int .i64 r)) (some 40) rfl rfl (by kernel_rfl) (by kernel_rfl) (by kernel_rfl) (fun _ _ _ h => h) (Or.inl ⟨by rfl, fun w' hS => (by go_simp)⟩) s0 ?_
    try simp only [Go.Act.put, Zx, Zy, Zz]
    refine wpH_take (i := 6) (v := (.agg #[.int .i64 o.1, .int .i64 o.2.1, .int .i64 o.2.2.1, .int .i64 o.2.2.2])) (some 41) rfl rfl (by kernel_rfl) (by kernel_rfl) (by kernel_rfl) (fun _ _ _ h => h) (Or.inl ⟨by rfl, fun w' hS => (by have z0 := O0 _ hS; have z1 := O1 _ hS; have z2 := O2 _ hS; have z3 := O3 _ hS; go_simp)⟩) s0 ?_
    try simp only [Go.Act.put, Zx, Zy, Zz]
    refine wpH_call (i := 7) (o := { dst := some 42, op := Op.call { callee := Callee.value (Operand.func 67), args := #[Operand.tmp 39, Operand.tmp 40, Operand.tmp 41], argTypes := #[103, 3, 39] }, type := 149, pos := _, after := #[{ on := 4, ground := Ground.data }, { on := 5, ground := Ground.data }, { on := 6, ground := Ground.data }], guard := none }) (by kernel_rfl) rfl (fun K' hK => ?_)
    rw [if_pos (by rfl)]
    go_simp
    refine (HE.out _ Q3.out B3.out).mono ?_
    rintro e w4 ⟨ta, tm, tc, rfl, v4, q4, b4, k4⟩
    have gq := HG.out _ _ _ q4
    have s4 : GmC w4 g P X.now ∧ _ := ⟨gq, (HB.out _ b4).1⟩
    clear gq
    have H11 := hid (k4 _ _ _ _ (by decide) H11.out)
    have V4 := hid v4
    have Q4 := hid q4
    have B4 := hid b4
    clear v4 q4 b4 k4
    refine hK.out _ _ s4 ?_
    clear hK
    try simp only [Go.Act.put, Zx, Zy, Zz]
    refine wpH_take (i := 8) (v := (.tuple #[(.slice ta tm tc), (.bool false), (.int .i64 0)])) (some 34) rfl rfl (by kernel_rfl) (by kernel_rfl) (by kernel_rfl) (fun _ _ _ h => h) (Or.inl ⟨by rfl, fun w' hS => (by go_simp)⟩) s4 ?_
    try simp only [Go.Act.put, Zx, Zy, Zz]
    refine wpH_take (i := 9) (v := (.slice ta tm tc)) (some 43) rfl rfl (by kernel_rfl) (by kernel_rfl) (by kernel_rfl) (fun _ _ _ h => h) (Or.inl ⟨by rfl, fun w' hS => (by go_simp)⟩) s4 ?_
    try simp only [Go.Act.put, Zx, Zy, Zz]
    refine wpH_take (i := 10) (v := (.bool false)) (some 44) rfl rfl (by kernel_rfl) (by kernel_rfl) (by kernel_rfl) (fun _ _ _ h => h) (Or.inl ⟨by rfl, fun w' hS => (by go_simp)⟩) s4 ?_
    try simp only [Go.Act.put, Zx, Zy, Zz]
    refine wpH_take (i := 11) (v := (.int .i64 0)) (some 45) rfl rfl (by kernel_rfl) (by kernel_rfl) (by kernel_rfl) (fun _ _ _ h => h) (Or.inl ⟨by rfl, fun w' hS => (by go_simp)⟩) s4 ?_
    try simp only [Go.Act.put, Zx, Zy, Zz]
    refine wpH_take (i := 12) (v := (.slice ta tm tc)) (some 13) rfl rfl (by kernel_rfl) (by kernel_rfl) (by kernel_rfl) (fun _ _ _ h => h) (Or.inl ⟨by rfl, fun w' hS => (by go_simp)⟩) s4 ?_
    try simp only [Go.Act.put, Zx, Zy, Zz]
    refine wpH_take (i := 13) (v := (.bool false)) (some 14) rfl rfl (by kernel_rfl) (by kernel_rfl) (by kernel_rfl) (fun _ _ _ h => h) (Or.inl ⟨by rfl, fun w' hS => (by go_simp)⟩) s4 ?_
    try simp only [Go.Act.put, Zx, Zy, Zz]
    refine wpH_take (i := 14) (v := (.int .i64 0)) (some 15) rfl rfl (by kernel_rfl) (by kernel_rfl) (by kernel_rfl) (fun _ _ _ h => h) (Or.inl ⟨by rfl, fun w' hS => (by go_simp)⟩) s4 ?_
    try simp only [Go.Act.put, Zx, Zy, Zz]
    refine wpAnyH_done (by kernel_rfl) ?_ _
    clear C1 O0 O1 O2 O3 s0
    have g4 := s4.1.f4
    have c4 := s4.1.c4
    clear s4
    obtain ⟨q5, b5, k5⟩ := HW.out _ Q4.out B4.out
    go_upto_region 9 with fail
    obtain ⟨W5, hW5⟩ : ∃ W5, W5 = w4.setCell ⟨g, 4, none⟩ (.int .i64 n) := ⟨_, rfl⟩
    rw [← hW5] at q5 b5 k5 ⊢
    have c3 := (HG.out _ _ _ q5).c3
    have H11 := hid (k5 _ _ _ _ (by decide) H11.out)
    have V5 := hid (Tv_keeps V4.out k5)
    have Q5 := hid q5
    have B5 := hid b5
    clear hW5 q5 b5 k5 g4 c4
    go_upto_region 10 with (go_at_call 68; refine (HSE.out _ Q5.out B5.out).mono ?_; rintro e w6 ⟨⟨xa, xm, xc, rfl⟩, q6, b6, k6⟩; have H11 := hid (k6 _ _ _ _ (by decide) H11.out); have V6 := hid (Tv_keeps V5.out k6); have H116 : Hid (w2.heap.size < w6.heap.size) := hid (block_lt H11.out); have Q6 := hid q6; have B6 := hid b6; clear q6 b6 k6 c3)
    have h11 := H11.out
    have y0 := cell_at (j := 0) h11 rfl
    have y1 := cell_at (j := 1) h11 rfl
    have y2 := cell_at (j := 2) h11 rfl
    have y3 := cell_at (j := 3) h11 rfl
    have y4 := cell_at (j := 4) h11 rfl
    clear h11
    go_upto_region 11 with fail
    obtain ⟨W7, hW7⟩ : ∃ W7, W7 = w6.alloc (.cells #[.int .i64 R.run, .int .u16 R.sp, .string R.nm, .int .i64 R.gen, .bool R.rf, .slice ta tm tc, .bool false, .bool false, .slice none 0 0, .slice none 0 0] 53) := ⟨_, rfl⟩
    have h16 := heap_alloc_new w6 (.cells #[.int .i64 R.run, .int .u16 R.sp, .string R.nm, .int .i64 R.gen, .bool R.rf, .slice ta tm tc, .bool false, .bool false, .slice none 0 0, .slice none 0 0] 53)
    obtain ⟨q7, b7, k7⟩ := HA.out _ _ _ (.cells #[.int .i64 R.run, .int .u16 R.sp, .string R.nm, .int .i64 R.gen, .bool R.rf, .slice ta tm tc, .bool false, .bool false, .slice none 0 0, .slice none 0 0] 53) Q6.out B6.out
    rw [← hW7] at h16 q7 b7 k7 ⊢
    have Z16 := hid (HB.out _ B6.out).2.2
    have H11 := hid (k7 _ _ _ _ (by decide) H11.out)
    have V7 := hid (Tv_keeps V6.out k7)
    have Q7 := hid q7
    have B7 := hid b7
    have H16 := hid h16
    clear hW7 q7 b7 k7 h16 y0 y1 y2 y3 y4
    have HDQ : Hid (DnQ W7 ⟨R, Ta.tEndL X.T r o, false, false, [], []⟩ o (.slice ta tm tc) (.slice none 0 0) (.slice none 0 0)) := hid ⟨V7.out, Me.RT.nil _ _, Snt.nil _⟩
    obtain ⟨-, hbj, -⟩ := HB.out _ B7.out
    have h16 := H16.out
    have x0 := cell_at (j := 0) h16 rfl
    have x1 := cell_at (j := 1) h16 rfl
    have x2 := cell_at (j := 2) h16 rfl
    have x3 := cell_at (j := 3) h16 rfl
    have x4 := cell_at (j := 4) h16 rfl
    have x5 := cell_at (j := 5) h16 rfl
    have x6 := cell_at (j := 6) h16 rfl
    have x7 := cell_at (j := 7) h16 rfl
    have x8 := cell_at (j := 8) h16 rfl
    have x9 := cell_at (j := 9) h16 rfl
    clear h16
    have d0 := cell_at (j := 0) hbj rfl
    have d1 := cell_at (j := 1) hbj rfl
    have d2 := cell_at (j := 2) hbj rfl
    have d3 := cell_at (j := 3) hbj rfl
    have d4 := cell_at (j := 4) hbj rfl
    have d5 := cell_at (j := 5) hbj rfl
    have d6 := cell_at (j := 6) hbj rfl
    have d7 := cell_at (j := 7) hbj rfl
    have d8 := cell_at (j := 8) hbj rfl
    have d9 := cell_at (j := 9) hbj rfl
    have df := froz_at hbj
    clear hbj
    go_wp2
    exact bodyPost_ret (v := .tuple #[.agg #[.int .i64 R.run, .int .u16 R.sp, .string R.nm, .int .i64 R.gen, .bool R.rf, .slice ta tm tc, .bool false, .bool false, .slice none 0 0, .slice none 0 0], .int .i64 0]) (by simp [results, Tryz.results29, go_sem, d0, d1, d2, d3, d4, d5, d6, d7, d8, d9]) rfl ⟨_, _, _, rfl, HF.out _ _ _ _ _ _ _ _ Q7.out B7.out HDQ.out (((((((((((Touch.refl _ _).setCell (Or.inl (by simp)) _).setCell (Or.inl (by simp)) _).setCell (Or.inl (by simp)) _).setCell (Or.inl (by simp)) _).setCell (Or.inl (by simp)) _).setCell (Or.inl (by simp)) _).setCell (Or.inl (by simp)) _).setCell (Or.inl (by simp)) _).setCell (Or.inl (by simp)) _).setCell (Or.inl (by simp)) _)⟩
   | true =>
    rw [hC] at HE
    simp only [Bool.true_and]
    clear hC HZ
    by_cases hrf : R.rf = true
    ·by_cases ho : o.2.1 = 0
     ·rw [hrf, decide_eq_true ho]
      simp only [Bool.not_true, Bool.and_false, Bool.not_false, if_true]
      rw [decide_eq_true ho] at HIF
      simp only [Bool.not_true] at HIF
      clear ho
      obtain ⟨Ru, Rp, Rm, Rg, Rf⟩ := R
      simp only at hrf
      subst hrf
      unfold Ta.rv at HRn
      unfold Ta.kOf kv at HKP
      simp only at HRn HKP ⊢
      unfold Me.ov PT at *
      generalize Me.kpB X.c X.mn n (edK X r) o = KB at *
      go_enter Tryz.func29, Tryz.ntmps29
      go_upto_region 1 with fail
      rw [← hV]
      clear hV
      have c1 := (HG.out _ _ _ HQ.out).c1
      go_upto_region 5 with (first
   | (go_at_call 59; refine HC.out.mono ?_; rintro e w1 ⟨rfl, rfl⟩)
   | (go_at_call 66; refine HRn.out.mono ?_; rintro e w2 ⟨⟨B, rfl⟩, q2, b2⟩; have Q2 := hid q2; have B2 := hid b2; clear q2 b2 c1))
      obtain ⟨W3, hW3⟩ : ∃ W3, W3 = w2.alloc (.cells #[.int .i64 Ru, .int .u16 Rp, .string Rm, .int .i64 Rg, .bool true] 49) := ⟨_, rfl⟩
      have h11 := heap_alloc_new w2 (.cells #[.int .i64 Ru, .int .u16 Rp, .string Rm, .int .i64 Rg, .bool true] 49)
      obtain ⟨q3, b3, -⟩ := HA.out _ _ _ (.cells #[.int .i64 Ru, .int .u16 Rp, .string Rm, .int .i64 Rg, .bool true] 49) Q2.out B2.out
      rw [← hW3] at h11 q3 b3 ⊢
      have Z11 := hid (HB.out _ B2.out).2.2
      have Q3 := hid q3
      have B3 := hid b3
      have H11 := hid h11
      clear hW3 q3 b3 h11
      have s0 : GmC W3.drew g P X.now ∧ _ := ⟨HG.out _ _ _ (Q3.out.then0 (Touch.refl _ _).drew), (HB.out _ (B3.out.keep ((Touch.refl [] W3).drew).keeps)).1⟩
      have C1 : ∀ w', (GmC w' g P X.now ∧ (w'.cell? ⟨w.heap.size, 0, none⟩ = some (.int .i64 o.1) ∧ w'.cell? ⟨w.heap.size, 1, none⟩ = some (.int .i64 o.2.1) ∧ w'.cell? ⟨w.heap.size, 2, none⟩ = some (.int .i64 o.2.2.1) ∧ w'.cell? ⟨w.heap.size, 3, none⟩ = some (.int .i64 o.2.2.2))) → w'.cell? ⟨g, 1, none⟩ = some (.pointer (some ⟨P.t, 0, none⟩)) := fun _ h => h.1.c1
      have O0 : ∀ w', (GmC w' g P X.now ∧ (w'.cell? ⟨w.heap.size, 0, none⟩ = some (.int .i64 o.1) ∧ w'.cell? ⟨w.heap.size, 1, none⟩ = some (.int .i64 o.2.1) ∧ w'.cell? ⟨w.heap.size, 2, none⟩ = some (.int .i64 o.2.2.1) ∧ w'.cell? ⟨w.heap.size, 3, none⟩ = some (.int .i64 o.2.2.2))) → w'.cell? ⟨w.heap.size, 0, none⟩ = some (.int .i64 o.1) := fun _ h => h.2.1
      have O1 : ∀ w', (GmC w' g P X.now ∧ (w'.cell? ⟨w.heap.size, 0, none⟩ = some (.int .i64 o.1) ∧ w'.cell? ⟨w.heap.size, 1, none⟩ = some (.int .i64 o.2.1) ∧ w'.cell? ⟨w.heap.size, 2, none⟩ = some (.int .i64 o.2.2.1) ∧ w'.cell? ⟨w.heap.size, 3, none⟩ = some (.int .i64 o.2.2.2))) → w'.cell? ⟨w.heap.size, 1, none⟩ = some (.int .i64 o.2.1) := fun _ h => h.2.2.1
      have O2 : ∀ w', (GmC w' g P X.now ∧ (w'.cell? ⟨w.heap.size, 0, none⟩ = some (.int .i64 o.1) ∧ w'.cell? ⟨w.heap.size, 1, none⟩ = some (.int .i64 o.2.1) ∧ w'.cell? ⟨w.heap.size, 2, none⟩ = some (.int .i64 o.2.2.1) ∧ w'.cell? ⟨w.heap.size, 3, none⟩ = some (.int .i64 o.2.2.2))) → w'.cell? ⟨w.heap.size, 2, none⟩ = some (.int .i64 o.2.2.1) := fun _ h => h.2.2.2.1
      have O3 : ∀ w', (GmC w' g P X.now ∧ (w'.cell? ⟨w.heap.size, 0, none⟩ = some (.int .i64 o.1) ∧ w'.cell? ⟨w.heap.size, 1, none⟩ = some (.int .i64 o.2.1) ∧ w'.cell? ⟨w.heap.size, 2, none⟩ = some (.int .i64 o.2.2.1) ∧ w'.cell? ⟨w.heap.size, 3, none⟩ = some (.int .i64 o.2.2.2))) → w'.cell? ⟨w.heap.size, 3, none⟩ = some (.int .i64 o.2.2.2) := fun _ h => h.2.2.2.2
      refine wp_region_H (S := fun w' => GmC w' g P X.now ∧ (w'.cell? ⟨w.heap.size, 0, none⟩ = some (.int .i64 o.1) ∧ w'.cell? ⟨w.heap.size, 1, none⟩ = some (.int .i64 o.2.1) ∧ w'.cell? ⟨w.heap.size, 2, none⟩ = some (.int .i64 o.2.2.1) ∧ w'.cell? ⟨w.heap.size, 3, none⟩ = some (.int .i64 o.2.2.2))) (by kernel_rfl) ?_
      refine wpH_take (i := 0) (v := (.pointer (some ⟨g, 0, none⟩))) (some 35) rfl rfl (by kernel_rfl) (by kernel_rfl) (by kernel_rfl) (fun _ _ _ h => h) (Or.inl ⟨by rfl, fun w' hS => (by go_simp)⟩) s0 ?_
      try simp only [Go.Act.put, Zx, Zy, Zz]
      refine wpH_take (i := 1) (v := (.pointer (some ⟨g, 0, none⟩))) (some 36) rfl rfl (by kernel_rfl) (by kernel_rfl) (by kernel_rfl) (fun _ _ _ h => h) (Or.inl ⟨by rfl, fun w' hS => (by go_simp)⟩) s0 ?_
      try simp only [Go.Act.put, Zx, Zy, Zz]
      refine wpH_take (i := 2) (v := (.pointer (some ⟨g, 0, none⟩))) (some 37) rfl rfl (by kernel_rfl) (by kernel_rfl) (by kernel_rfl) (fun _ _ _ h => h) (Or.inl ⟨by rfl, fun w' hS => (by go_simp)⟩) s0 ?_
      try simp only [Go.Act.put, Zx, Zy, Zz]
      refine wpH_take (i := 3) (v := (.pointer (some ⟨g, 1, none⟩))) (some 38) rfl rfl (by kernel_rfl) (by kernel_rfl) (by kernel_rfl) (fun _ _ _ h => h) (Or.inl ⟨by rfl, fun w' hS => (by go_simp)⟩) s0 ?_
      try simp only [Go.Act.put, Zx, Zy, Zz]
      refine wpH_take (i := 4) (v := (.pointer (some ⟨P.t, 0, none⟩))) (some 39) rfl rfl (by kernel_rfl) (by kernel_rfl) (by kernel_rfl) (fun _ _ _ h => h) (Or.inl ⟨by rfl, fun w' hS => (by have z0 := C1 _ hS; go_simp)⟩) s0 ?_
      try simp only [Go.Act.put, Zx, Zy, Zz]
      refine wpH_take (i := 5) (v := (.int .i64 r)) (some 40) rfl rfl (by kernel_rfl) (by kernel_rfl) (by kernel_rfl) (fun _ _ _ h => h) (Or.inl ⟨by rfl, fun w' hS => (by go_simp)⟩) s0 ?_
      try simp only [Go.Act.put, Zx, Zy, Zz]
      refine wpH_take (i := 6) (v := (.agg #[.int .i64 o.1, .int .i64 o.2.1, .int .i64 o.2.2.1, .int .i64 o.2.2.2])) (some 41) rfl rfl (by kernel_rfl) (by kernel_rfl) (by kernel_rfl) (fun _ _ _ h => h) (Or.inl ⟨by rfl, fun w' hS => (by have z0 := O0 _ hS; have z1 := O1 _ hS; have z2 := O2 _ hS; have z3 := O3 _ hS; go_simp)⟩) s0 ?_
      try simp only [Go.Act.put, Zx, Zy, Zz]
      refine wpH_call (i := 7) (o := { dst := some 42, op := Op.call { callee := Callee.value (Operand.func 67), args := #[Operand.tmp 39, Operand.tmp 40, Operand.tmp 41], argTypes := #[103, 3, 39] }, type := 149, pos := _, after := #[{ on := 4, ground := Ground.data }, { on := 5, ground := Ground.data }, { on := 6, ground := Ground.data }], guard := none }) (by kernel_rfl) rfl (fun K' hK => ?_)
      rw [if_pos (by rfl)]
      go_simp
      refine (HE.out _ Q3.out B3.out).mono ?_
      rintro e w4 ⟨ta, tm, tc, rfl, v4, q4, b4, k4⟩
      have gq := HG.out _ _ _ q4
      have s4 : GmC w4 g P X.now ∧ _ := ⟨gq, (HB.out _ b4).1⟩
      clear gq
      have H11 := hid (k4 _ _ _ _ (by decide) H11.out)
      have V4 := hid v4
      have Q4 := hid q4
      have B4 := hid b4
      clear v4 q4 b4 k4
      refine hK.out _ _ s4 ?_
      clear hK
      try simp only [Go.Act.put, Zx, Zy, Zz]
      refine wpH_take (i := 8) (v := (.tuple #[(.slice ta tm tc), (.bool true), (.int .i64 0)])) (some 34) rfl rfl (by kernel_rfl) (by kernel_rfl) (by kernel_rfl) (fun _ _ _ h => h) (Or.inl ⟨by rfl, fun w' hS => (by go_simp)⟩) s4 ?_
      try simp only [Go.Act.put, Zx, Zy, Zz]
      refine wpH_take (i := 9) (v := (.slice ta tm tc)) (some 43) rfl rfl (by kernel_rfl) (by kernel_rfl) (by kernel_rfl) (fun _ _ _ h => h) (Or.inl ⟨by rfl, fun w' hS => (by go_simp)⟩) s4 ?_
      try simp only [Go.Act.put, Zx, Zy, Zz]
      refine wpH_take (i := 10) (v := (.bool true)) (some 44) rfl rfl (by kernel_rfl) (by kernel_rfl) (by kernel_rfl) (fun _ _ _ h => h) (Or.inl ⟨by rfl, fun w' hS => (by go_simp)⟩) s4 ?_
      try simp only [Go.Act.put, Zx, Zy, Zz]
      refine wpH_take (i := 11) (v := (.int .i64 0)) (some 45) rfl rfl (by kernel_rfl) (by kernel_rfl) (by kernel_rfl) (fun _ _ _ h => h) (Or.inl ⟨by rfl, fun w' hS => (by go_simp)⟩) s4 ?_
      try simp only [Go.Act.put, Zx, Zy, Zz]
      refine wpH_take (i := 12) (v := (.slice ta tm tc)) (some 13) rfl rfl (by kernel_rfl) (by kernel_rfl) (by kernel_rfl) (fun _ _ _ h => h) (Or.inl ⟨by rfl, fun w' hS => (by go_simp)⟩) s4 ?_
      try simp only [Go.Act.put, Zx, Zy, Zz]
      refine wpH_take (i := 13) (v := (.bool true)) (some 14) rfl rfl (by kernel_rfl) (by kernel_rfl) (by kernel_rfl) (fun _ _ _ h => h) (Or.inl ⟨by rfl, fun w' hS => (by go_simp)⟩) s4 ?_
      try simp only [Go.Act.put, Zx, Zy, Zz]
      refine wpH_take (i := 14) (v := (.int .i64 0)) (some 15) rfl rfl (by kernel_rfl) (by kernel_rfl) (by kernel_rfl) (fun _ _ _ h => h) (Or.inl ⟨by rfl, fun w' hS => (by go_simp)⟩) s4 ?_
      try simp only [Go.Act.put, Zx, Zy, Zz]
      refine wpAnyH_done (by kernel_rfl) ?_ _
      clear C1 O0 O1 O2 O3 s0
      have g4 := s4.1.f4
      have c4 := s4.1.c4
      clear s4
      obtain ⟨q5, b5, k5⟩ := HW.out _ Q4.out B4.out
      go_upto_region 9 with fail
      obtain ⟨W5, hW5⟩ : ∃ W5, W5 = w4.setCell ⟨g, 4, none⟩ (.int .i64 n) := ⟨_, rfl⟩
      rw [← hW5] at q5 b5 k5 ⊢
      have c3 := (HG.out _ _ _ q5).c3
      have H11 := hid (k5 _ _ _ _ (by decide) H11.out)
      have V5 := hid (Tv_keeps V4.out k5)
      have Q5 := hid q5
      have B5 := hid b5
      clear hW5 q5 b5 k5 g4 c4
      go_upto_region 10 with (go_at_call 68; refine (HSE.out _ Q5.out B5.out).mono ?_; rintro e w6 ⟨⟨xa, xm, xc, rfl⟩, q6, b6, k6⟩; have H11 := hid (k6 _ _ _ _ (by decide) H11.out); have V6 := hid (Tv_keeps V5.out k6); have H116 : Hid (w2.heap.size < w6.heap.size) := hid (block_lt H11.out); have Q6 := hid q6; have B6 := hid b6; clear q6 b6 k6 c3)
      have h11 := H11.out
      have y0 := cell_at (j := 0) h11 rfl
      have y1 := cell_at (j := 1) h11 rfl
      have y2 := cell_at (j := 2) h11 rfl
      have y3 := cell_at (j := 3) h11 rfl
      have y4 := cell_at (j := 4) h11 rfl
      clear h11
      go_upto_region 11 with fail
      obtain ⟨W7, hW7⟩ : ∃ W7, W7 = w6.alloc (.cells #[.int .i64 Ru, .int .u16 Rp, .string Rm, .int .i64 Rg, .bool true, .slice ta tm tc, .bool true, .bool false, .slice none 0 0, .slice none 0 0] 53) := ⟨_, rfl⟩
      have h16 := heap_alloc_new w6 (.cells #[.int .i64 Ru, .int .u16 Rp, .string Rm, .int .i64 Rg, .bool true, .slice ta tm tc, .bool true, .bool false, .slice none 0 0, .slice none 0 0] 53)
      obtain ⟨q7, b7, k7⟩ := HA.out _ _ _ (.cells #[.int .i64 Ru, .int .u16 Rp, .string Rm, .int .i64 Rg, .bool true, .slice ta tm tc, .bool true, .bool false, .slice none 0 0, .slice none 0 0] 53) Q6.out B6.out
      rw [← hW7] at h16 q7 b7 k7 ⊢
      have Z16 := hid (HB.out _ B6.out).2.2
      have H11 := hid (k7 _ _ _ _ (by decide) H11.out)
      have V7 := hid (Tv_keeps V6.out k7)
      have Q7 := hid q7
      have B7 := hid b7
      have H16 := hid h16
      clear hW7 q7 b7 k7 h16 y0 y1 y2 y3 y4
      have h11 := H11.out
      have y4 := cell_at (j := 4) h11 rfl
      obtain ⟨⟨o0, o1, o2, o3⟩, -, -⟩ := HB.out _ B7.out
      clear h11
      go_upto_region 12 with (go_at_call 69; refine (HIF.out _).mono ?_; rintro e w8 ⟨rfl, t8⟩; obtain ⟨q8, b8, k8⟩ := HT0.out _ _ _ _ Q7.out B7.out t8; have H11 := hid (k8 _ _ _ _ (by decide) H11.out); have H16 := hid (k8 _ _ _ _ (by decide) H16.out); have V8 := hid (Tv_keeps V7.out k8); have Q8 := hid q8; have B8 := hid b8; clear q8 b8 k8 t8 o0 o1 o2 o3 y4)
      have gq := HG.out _ _ _ (Q8.out.then0 ((Touch.refl [] w8).drew))
      have s8 : GmC w8.drew g P n ∧ _ ∧ _ ∧ _ := ⟨gq, (HB.out _ (B8.out.keep ((Touch.refl [] w8).drew).keeps)).1, cell_at (j := 1) (v := .int .u16 Rp) (((Touch.refl [] w8).drew).keep H11.out (by simp)) rfl, cell_at (j := 2) (v := .string Rm) (((Touch.refl [] w8).drew).keep H11.out (by simp)) rfl⟩
      have C0 : ∀ w', (GmC w' g P n ∧ (w'.cell? ⟨w.heap.size, 0, none⟩ = some (.int .i64 o.1) ∧ w'.cell? ⟨w.heap.size, 1, none⟩ = some (.int .i64 o.2.1) ∧ w'.cell? ⟨w.heap.size, 2, none⟩ = some (.int .i64 o.2.2.1) ∧ w'.cell? ⟨w.heap.size, 3, none⟩ = some (.int .i64 o.2.2.2)) ∧ w'.cell? ⟨w2.heap.size, 1, none⟩ = some (.int .u16 Rp) ∧ w'.cell? ⟨w2.heap.size, 2, none⟩ = some (.string Rm)) → w'.cell? ⟨g, 0, none⟩ = some (.pointer (some ⟨P.m, 0, none⟩)) := fun _ h => h.1.c0
      have Y1 : ∀ w', (GmC w' g P n ∧ (w'.cell? ⟨w.heap.size, 0, none⟩ = some (.int .i64 o.1) ∧ w'.cell? ⟨w.heap.size, 1, none⟩ = some (.int .i64 o.2.1) ∧ w'.cell? ⟨w.heap.size, 2, none⟩ = some (.int .i64 o.2.2.1) ∧ w'.cell? ⟨w.heap.size, 3, none⟩ = some (.int .i64 o.2.2.2)) ∧ w'.cell? ⟨w2.heap.size, 1, none⟩ = some (.int .u16 Rp) ∧ w'.cell? ⟨w2.heap.size, 2, none⟩ = some (.string Rm)) → w'.cell? ⟨w2.heap.size, 1, none⟩ = some (.int .u16 Rp) := fun _ h => h.2.2.1
      have Y2 : ∀ w', (GmC w' g P n ∧ (w'.cell? ⟨w.heap.size, 0, none⟩ = some (.int .i64 o.1) ∧ w'.cell? ⟨w.heap.size, 1, none⟩ = some (.int .i64 o.2.1) ∧ w'.cell? ⟨w.heap.size, 2, none⟩ = some (.int .i64 o.2.2.1) ∧ w'.cell? ⟨w.heap.size, 3, none⟩ = some (.int .i64 o.2.2.2)) ∧ w'.cell? ⟨w2.heap.size, 1, none⟩ = some (.int .u16 Rp) ∧ w'.cell? ⟨w2.heap.size, 2, none⟩ = some (.string Rm)) → w'.cell? ⟨w2.heap.size, 2, none⟩ = some (.string Rm) := fun _ h => h.2.2.2
      have O0 : ∀ w', (GmC w' g P n ∧ (w'.cell? ⟨w.heap.size, 0, none⟩ = some (.int .i64 o.1) ∧ w'.cell? ⟨w.heap.size, 1, none⟩ = some (.int .i64 o.2.1) ∧ w'.cell? ⟨w.heap.size, 2, none⟩ = some (.int .i64 o.2.2.1) ∧ w'.cell? ⟨w.heap.size, 3, none⟩ = some (.int .i64 o.2.2.2)) ∧ w'.cell? ⟨w2.heap.size, 1, none⟩ = some (.int .u16 Rp) ∧ w'.cell? ⟨w2.heap.size, 2, none⟩ = some (.string Rm)) → w'.cell? ⟨w.heap.size, 0, none⟩ = some (.int .i64 o.1) := fun _ h => h.2.1.1
      have O1 : ∀ w', (GmC w' g P n ∧ (w'.cell? ⟨w.heap.size, 0, none⟩ = some (.int .i64 o.1) ∧ w'.cell? ⟨w.heap.size, 1, none⟩ = some (.int .i64 o.2.1) ∧ w'.cell? ⟨w.heap.size, 2, none⟩ = some (.int .i64 o.2.2.1) ∧ w'.cell? ⟨w.heap.size, 3, none⟩ = some (.int .i64 o.2.2.2)) ∧ w'.cell? ⟨w2.heap.size, 1, none⟩ = some (.int .u16 Rp) ∧ w'.cell? ⟨w2.heap.size, 2, none⟩ = some (.string Rm)) → w'.cell? ⟨w.heap.size, 1, none⟩ = some (.int .i64 o.2.1) := fun _ h => h.2.1.2.1
      have O2 : ∀ w', (GmC w' g P n ∧ (w'.cell? ⟨w.heap.size, 0, none⟩ = some (.int .i64 o.1) ∧ w'.cell? ⟨w.heap.size, 1, none⟩ = some (.int .i64 o.2.1) ∧ w'.cell? ⟨w.heap.size, 2, none⟩ = some (.int .i64 o.2.2.1) ∧ w'.cell? ⟨w.heap.size, 3, none⟩ = some (.int .i64 o.2.2.2)) ∧ w'.cell? ⟨w2.heap.size, 1, none⟩ = some (.int .u16 Rp) ∧ w'.cell? ⟨w2.heap.size, 2, none⟩ = some (.string Rm)) → w'.cell? ⟨w.heap.size, 2, none⟩ = some (.int .i64 o.2.2.1) := fun _ h => h.2.1.2.2.1
      have O3 : ∀ w', (GmC w' g P n ∧ (w'.cell? ⟨w.heap.size, 0, none⟩ = some (.int .i64 o.1) ∧ w'.cell? ⟨w.heap.size, 1, none⟩ = some (.int .i64 o.2.1) ∧ w'.cell? ⟨w.heap.size, 2, none⟩ = some (.int .i64 o.2.2.1) ∧ w'.cell? ⟨w.heap.size, 3, none⟩ = some (.int .i64 o.2.2.2)) ∧ w'.cell? ⟨w2.heap.size, 1, none⟩ = some (.int .u16 Rp) ∧ w'.cell? ⟨w2.heap.size, 2, none⟩ = some (.string Rm)) → w'.cell? ⟨w.heap.size, 3, none⟩ = some (.int .i64 o.2.2.2) := fun _ h => h.2.1.2.2.2
      refine wp_region_H (S := fun w' => GmC w' g P n ∧ (w'.cell? ⟨w.heap.size, 0, none⟩ = some (.int .i64 o.1) ∧ w'.cell? ⟨w.heap.size, 1, none⟩ = some (.int .i64 o.2.1) ∧ w'.cell? ⟨w.heap.size, 2, none⟩ = some (.int .i64 o.2.2.1) ∧ w'.cell? ⟨w.heap.size, 3, none⟩ = some (.int .i64 o.2.2.2)) ∧ w'.cell? ⟨w2.heap.size, 1, none⟩ = some (.int .u16 Rp) ∧ w'.cell? ⟨w2.heap.size, 2, none⟩ = some (.string Rm)) (by kernel_rfl) ?_
      refine wpH_take (i := 0) (v := (.pointer (some ⟨g, 0, none⟩))) (some 76) rfl rfl (by kernel_rfl) (by kernel_rfl) (by kernel_rfl) (fun _ _ _ h => h) (Or.inl ⟨by rfl, fun w' hS => (by go_simp)⟩) s8 ?_
      try simp only [Go.Act.put, Zx, Zy, Zz]
      refine wpH_take (i := 1) (v := (.pointer (some ⟨g, 0, none⟩))) (some 77) rfl rfl (by kernel_rfl) (by kernel_rfl) (by kernel_rfl) (fun _ _ _ h => h) (Or.inl ⟨by rfl, fun w' hS => (by go_simp)⟩) s8 ?_
      try simp only [Go.Act.put, Zx, Zy, Zz]
      refine wpH_take (i := 2) (v := (.pointer (some ⟨g, 0, none⟩))) (some 78) rfl rfl (by kernel_rfl) (by kernel_rfl) (by kernel_rfl) (fun _ _ _ h => h) (Or.inl ⟨by rfl, fun w' hS => (by go_simp)⟩) s8 ?_
      try simp only [Go.Act.put, Zx, Zy, Zz]
      refine wpH_take (i := 3) (v := (.pointer (some ⟨g, 0, none⟩))) (some 79) rfl rfl (by kernel_rfl) (by kernel_rfl) (by kernel_rfl) (fun _ _ _ h => h) (Or.inl ⟨by rfl, fun w' hS => (by go_simp)⟩) s8 ?_
      try simp only [Go.Act.put, Zx, Zy, Zz]
      refine wpH_take (i := 4) (v := (.pointer (some ⟨P.m, 0, none⟩))) (some 80) rfl rfl (by kernel_rfl) (by kernel_rfl) (by kernel_rfl) (fun _ _ _ h => h) (Or.inl ⟨by rfl, fun w' hS => (by have z0 := C0 _ hS; go_simp)⟩) s8 ?_
      try simp only [Go.Act.put, Zx, Zy, Zz]
      refine wpH_take (i := 5) (v := (.int .i64 n)) (some 81) rfl rfl (by kernel_rfl) (by kernel_rfl) (by kernel_rfl) (fun _ _ _ h => h) (Or.inl ⟨by rfl, fun w' hS => (by go_simp)⟩) s8 ?_
      try simp only [Go.Act.put, Zx, Zy, Zz]
      refine wpH_take (i := 6) (v := (.pointer (some ⟨w2.heap.size, 1, none⟩))) (some 82) rfl rfl (by kernel_rfl) (by kernel_rfl) (by kernel_rfl) (fun _ _ _ h => h) (Or.inl ⟨by rfl, fun w' hS => (by go_simp)⟩) s8 ?_
      try simp only [Go.Act.put, Zx, Zy, Zz]
      refine wpH_take (i := 7) (v := (.agg #[.int .u16 Rp, .string Rm])) (some 83) rfl rfl (by kernel_rfl) (by kernel_rfl) (by kernel_rfl) (fun _ _ _ h => h) (Or.inl ⟨by rfl, fun w' hS => (by have z0 := Y1 _ hS; have z1 := Y2 _ hS; go_simp)⟩) s8 ?_
      try simp only [Go.Act.put, Zx, Zy, Zz]
      refine wpH_take (i := 8) (v := (.agg #[.int .i64 o.1, .int .i64 o.2.1, .int .i64 o.2.2.1, .int .i64 o.2.2.2])) (some 84) rfl rfl (by kernel_rfl) (by kernel_rfl) (by kernel_rfl) (fun _ _ _ h => h) (Or.inl ⟨by rfl, fun w' hS => (by have z0 := O0 _ hS; have z1 := O1 _ hS; have z2 := O2 _ hS; have z3 := O3 _ hS; go_simp)⟩) s8 ?_
      try simp only [Go.Act.put, Zx, Zy, Zz]
      refine wpH_call (i := 9) (o := { dst := some 85, op := Op.call { callee := Callee.value (Operand.func 70), args := #[Operand.tmp 80, Operand.tmp 81, Operand.tmp 83, Operand.tmp 84], argTypes := #[91, 2, 35, 39] }, type := 152, pos := _, after := #[{ on := 4, ground := Ground.data }, { on := 5, ground := Ground.data }, { on := 7, ground := Ground.data }, { on := 8, ground := Ground.data }], guard := none }) (by kernel_rfl) rfl (fun K' hK => ?_)
      rw [if_pos (by rfl)]
      go_simp
      refine (HKP.out _ Q8.out B8.out).mono ?_
      rintro e w9 ⟨ga, gm, gc, E, rfl, r9, ok9, q9, b9, k9⟩
      have H11 := hid (k9 _ _ _ _ (by decide) H11.out)
      have H16 := hid (k9 _ _ _ _ (by decide) H16.out)
      have V9 := hid (Tv_keeps V8.out k9)
      have gq := HG.out _ _ _ q9
      have s9 : GmC w9 g P n ∧ _ ∧ _ ∧ _ := ⟨gq, (HB.out _ b9).1, cell_at (j := 1) (v := .int .u16 Rp) H11.out rfl, cell_at (j := 2) (v := .string Rm) H11.out rfl⟩
      have H169 := H16
      have R9 := hid r9
      have OK9 := hid ok9
      have Q9 := hid q9
      have B9 := hid b9
      clear r9 ok9 q9 b9 k9
      refine hK.out _ _ s9 ?_
      clear hK
      try simp only [Go.Act.put, Zx, Zy, Zz]
      refine wpH_take (i := 10) (v := (.tuple #[(.bool KB), (.slice ga gm gc), (.int .i64 E)])) (some 75) rfl rfl (by kernel_rfl) (by kernel_rfl) (by kernel_rfl) (fun _ _ _ h => h) (Or.inl ⟨by rfl, fun w' hS => (by go_simp)⟩) s9 ?_
      try simp only [Go.Act.put, Zx, Zy, Zz]
      refine wpH_take (i := 11) (v := (.bool KB)) (some 86) rfl rfl (by kernel_rfl) (by kernel_rfl) (by kernel_rfl) (fun _ _ _ h => h) (Or.inl ⟨by rfl, fun w' hS => (by go_simp)⟩) s9 ?_
      try simp only [Go.Act.put, Zx, Zy, Zz]
      refine wpH_take (i := 12) (v := (.slice ga gm gc)) (some 87) rfl rfl (by kernel_rfl) (by kernel_rfl) (by kernel_rfl) (fun _ _ _ h => h) (Or.inl ⟨by rfl, fun w' hS => (by go_simp)⟩) s9 ?_
      try simp only [Go.Act.put, Zx, Zy, Zz]
      refine wpH_take (i := 13) (v := (.int .i64 E)) (some 88) rfl rfl (by kernel_rfl) (by kernel_rfl) (by kernel_rfl) (fun _ _ _ h => h) (Or.inl ⟨by rfl, fun w' hS => (by go_simp)⟩) s9 ?_
      try simp only [Go.Act.put, Zx, Zy, Zz]
      refine wpH_take (i := 14) (v := (.pointer (some ⟨w6.heap.size, 7, none⟩))) (some 89) rfl rfl (by kernel_rfl) (by kernel_rfl) (by kernel_rfl) (fun _ _ _ h => h) (Or.inl ⟨by rfl, fun w' hS => (by go_simp)⟩) s9 ?_
      try simp only [Go.Act.put, Zx, Zy, Zz]
      refine wpH_call (i := 15) (o := { dst := none, op := Op.store 4 (Operand.tmp 89) (Operand.tmp 86), type := 0, pos := _, after := #[{ on := 14, ground := Ground.data }, { on := 11, ground := Ground.data }, { on := 9, ground := Ground.chain }, { on := 0, ground := Ground.phase }, { on := 1, ground := Ground.phase }, { on := 2, ground := Ground.phase }, { on := 3, ground := Ground.phase }, { on := 4, ground := Ground.phase }, { on := 5, ground := Ground.phase }, { on := 6, ground := Ground.phase }, { on := 7, ground := Ground.phase }, { on := 8, ground := Ground.phase }, { on := 9, ground := Ground.phase }, { on := 10, ground := Ground.phase }, { on := 11, ground := Ground.phase }, { on := 12, ground := Ground.textOnly Departure.lateStores }, { on := 13, ground := Ground.textOnly Departure.lateStores }], guard := none }) (by kernel_rfl) rfl (fun K' hK => ?_)
      rw [if_pos (by rfl)]
      have x7 := cell_at (j := 7) H16.out rfl
      have xf := froz_at H16.out
      go_simp
      obtain ⟨WA, hWA⟩ : ∃ W, W = w9.setCell ⟨w6.heap.size, 7, none⟩ (.bool KB) := ⟨_, rfl⟩
      have tWA : Touch [w6.heap.size] w9 WA := by rw [hWA]; exact ((Touch.refl _ _).setCell (Or.inl (by simp)) _)
      have eWA := dn7 H16.out (.bool KB)
      rw [← hWA] at eWA ⊢
      obtain ⟨qA, bA'⟩ := HP.out _ _ _ _ _ _ Z16.out H16.out Q9.out B9.out tWA
      have H11 := hid (tWA.keep H11.out (by have := H116.out; simp; omega))
      have H16 := hid eWA
      have gq := HG.out _ _ _ qA
      have sA : GmC WA g P n ∧ _ ∧ _ ∧ _ := ⟨gq, (HB.out _ bA').1, cell_at (j := 1) (v := .int .u16 Rp) H11.out rfl, cell_at (j := 2) (v := .string Rm) H11.out rfl⟩
      have QA := hid qA
      have BA := hid bA'
      have KWA := hid tWA
      clear hWA tWA eWA qA bA'
      clear x7 xf
      refine hK.out _ _ sA ?_
      clear hK
      try simp only [Go.Act.put, Zx, Zy, Zz]
      refine wpH_take (i := 16) (v := (.pointer (some ⟨w6.heap.size, 8, none⟩))) (some 90) rfl rfl (by kernel_rfl) (by kernel_rfl) (by kernel_rfl) (fun _ _ _ h => h) (Or.inl ⟨by rfl, fun w' hS => (by go_simp)⟩) sA ?_
      try simp only [Go.Act.put, Zx, Zy, Zz]
      refine wpH_call (i := 17) (o := { dst := none, op := Op.store 51 (Operand.tmp 90) (Operand.tmp 87), type := 0, pos := _, after := #[{ on := 16, ground := Ground.data }, { on := 12, ground := Ground.data }, { on := 15, ground := Ground.chain }, { on := 0, ground := Ground.phase }, { on := 1, ground := Ground.phase }, { on := 2, ground := Ground.phase }, { on := 3, ground := Ground.phase }, { on := 4, ground := Ground.phase }, { on := 5, ground := Ground.phase }, { on := 6, ground := Ground.phase }, { on := 7, ground := Ground.phase }, { on := 8, ground := Ground.phase }, { on := 9, ground := Ground.phase }, { on := 10, ground := Ground.phase }, { on := 11, ground := Ground.phase }, { on := 12, ground := Ground.phase }, { on := 13, ground := Ground.textOnly Departure.lateStores }, { on := 14, ground := Ground.phase }, { on := 15, ground := Ground.phase }], guard := none }) (by kernel_rfl) rfl (fun K' hK => ?_)
      rw [if_pos (by rfl)]
      have x7 := cell_at (j := 8) H16.out rfl
      have xf := froz_at H16.out
      go_simp
      obtain ⟨WB, hWB⟩ : ∃ W, W = WA.setCell ⟨w6.heap.size, 8, none⟩ (.slice ga gm gc) := ⟨_, rfl⟩
      have tWB : Touch [w6.heap.size] WA WB := by rw [hWB]; exact ((Touch.refl _ _).setCell (Or.inl (by simp)) _)
      have eWB := dn8 H16.out (.slice ga gm gc)
      rw [← hWB] at eWB ⊢
      obtain ⟨qB, bB'⟩ := HP.out _ _ _ _ _ _ Z16.out H16.out QA.out BA.out tWB
      have H11 := hid (tWB.keep H11.out (by have := H116.out; simp; omega))
      have H16 := hid eWB
      have gq := HG.out _ _ _ qB
      have sB : GmC WB g P n ∧ _ ∧ _ ∧ _ := ⟨gq, (HB.out _ bB').1, cell_at (j := 1) (v := .int .u16 Rp) H11.out rfl, cell_at (j := 2) (v := .string Rm) H11.out rfl⟩
      have QB := hid qB
      have BB := hid bB'
      have KWB := hid tWB
      clear hWB tWB eWB qB bB'
      clear x7 xf
      refine hK.out _ _ sB ?_
      clear hK
      try simp only [Go.Act.put, Zx, Zy, Zz]
      refine wpAnyH_done (by kernel_rfl) ?_ _
      clear C0 Y1 Y2 O0 O1 O2 O3 s8 s9 sA sB
      have h16 := H16.out
      have x0 := cell_at (j := 0) h16 rfl
      have x1 := cell_at (j := 1) h16 rfl
      have x2 := cell_at (j := 2) h16 rfl
      have x3 := cell_at (j := 3) h16 rfl
      have x4 := cell_at (j := 4) h16 rfl
      have x5 := cell_at (j := 5) h16 rfl
      have x6 := cell_at (j := 6) h16 rfl
      have x7 := cell_at (j := 7) h16 rfl
      have x8 := cell_at (j := 8) h16 rfl
      have x9 := cell_at (j := 9) h16 rfl
      have xf := froz_at h16
      have z16b : w6.heap.size ≠ w.heap.size + 1 := by have := Z16.out; omega
      have TAB := hid (KWA.out.trans' KWB.out)
      have HRB : Hid (Me.RT 35 WB (.slice ga gm gc) (edG X n r o)) := hid (RT_box R9.out H169.out TAB.out)
      have VB := hid (Tv_box V9.out H169.out TAB.out)
      clear h16
      go_upto_region 14 with (go_at_call 71; refine (HRL.out _ _ QB.out BB.out HRB.out OK9.out).mono ?_; rintro e wc ⟨la, lm, lc, rfl, nC, qC, bC, kC⟩; have H16 := hid (kC _ _ _ _ (by decide) H16.out); have hC := H16.out; clear x0 x1 x2 x3 x4 x5 x6 x7 x8 x9 xf; have x9 := cell_at (j := 9) hC rfl; have xf := froz_at hC; have RC := hid (RT_keeps HRB.out kC); have VC := hid (Tv_keeps VB.out kC); have NC := hid nC; have QC := hid qC; have BC := hid bC; clear hC nC qC bC kC)
      obtain ⟨WD, hWD⟩ : ∃ W, W = wc.setCell ⟨w6.heap.size, 9, none⟩ (.slice la lm lc) := ⟨_, rfl⟩
      have tD : Touch [w6.heap.size] wc WD := by rw [hWD]; exact ((Touch.refl _ _).setCell (Or.inl (by simp)) _)
      have eD := dn9 H16.out (.slice la lm lc)
      rw [← hWD] at eD ⊢
      obtain ⟨qD, bD⟩ := HP.out _ _ _ _ _ _ Z16.out H16.out QC.out BC.out tD
      have HDQ : Hid (DnQ WD ⟨⟨Ru, Rp, Rm, Rg, true⟩, Ta.tEndL X.T r o, true, KB, edG X n r o, rlL (ed2 X n r o) (edG X n r o)⟩ o (.slice ta tm tc) (.slice ga gm gc) (.slice la lm lc)) := hid (DnQ.put (D := ⟨⟨Ru, Rp, Rm, Rg, true⟩, Ta.tEndL X.T r o, true, KB, edG X n r o, rlL (ed2 X n r o) (edG X n r o)⟩) ⟨VC.out, RC.out, NC.out⟩ H16.out tD)
      have H16 := hid eD
      have QD := hid qD
      have BD := hid bD
      clear hWD tD eD qD bD x9 xf z16b
      obtain ⟨-, hbj, -⟩ := HB.out _ BD.out
      have h16 := H16.out
      have x0 := cell_at (j := 0) h16 rfl
      have x1 := cell_at (j := 1) h16 rfl
      have x2 := cell_at (j := 2) h16 rfl
      have x3 := cell_at (j := 3) h16 rfl
      have x4 := cell_at (j := 4) h16 rfl
      have x5 := cell_at (j := 5) h16 rfl
      have x6 := cell_at (j := 6) h16 rfl
      have x7 := cell_at (j := 7) h16 rfl
      have x8 := cell_at (j := 8) h16 rfl
      have x9 := cell_at (j := 9) h16 rfl
      clear h16
      have d0 := cell_at (j := 0) hbj rfl
      have d1 := cell_at (j := 1) hbj rfl
      have d2 := cell_at (j := 2) hbj rfl
      have d3 := cell_at (j := 3) hbj rfl
      have d4 := cell_at (j := 4) hbj rfl
      have d5 := cell_at (j := 5) hbj rfl
      have d6 := cell_at (j := 6) hbj rfl
      have d7 := cell_at (j := 7) hbj rfl
      have d8 := cell_at (j := 8) hbj rfl
      have d9 := cell_at (j := 9) hbj rfl
      have df := froz_at hbj
      clear hbj
      go_wp2
      exact bodyPost_ret (v := .tuple #[.agg #[.int .i64 Ru, .int .u16 Rp, .string Rm, .int .i64 Rg, .bool true, .slice ta tm tc, .bool true, .bool KB, .slice ga gm gc, .slice la lm lc], .int .i64 0]) (by simp [results, Tryz.results29, go_sem, d0, d1, d2, d3, d4, d5, d6, d7, d8, d9]) rfl ⟨_, _, _, rfl, HF.out _ _ _ _ _ _ _ _ QD.out BD.out HDQ.out (((((((((((Touch.refl _ _).setCell (Or.inl (by simp)) _).setCell (Or.inl (by simp)) _).setCell (Or.inl (by simp)) _).setCell (Or.inl (by simp)) _).setCell (Or.inl (by simp)) _).setCell (Or.inl (by simp)) _).setCell (Or.inl (by simp)) _).setCell (Or.inl (by simp)) _).setCell (Or.inl (by simp)) _).setCell (Or.inl (by simp)) _)⟩
     ·rw [hrf, decide_eq_false ho]
      simp only [Bool.not_false, Bool.and_true, Bool.not_true, Bool.false_eq_true, if_false]
      rw [decide_eq_false ho] at HIF
      simp only [Bool.not_false] at HIF
      clear ho HKP HRL
      obtain ⟨Ru, Rp, Rm, Rg, Rf⟩ := R
      simp only at hrf
      subst hrf
      unfold Ta.rv at HRn
      unfold Me.ov PT at *
      simp only at HRn ⊢
      go_enter Tryz.func29, Tryz.ntmps29
      go_upto_region 1 with fail
      rw [← hV]
      clear hV
      have c1 := (HG.out _ _ _ HQ.out).c1
      go_upto_region 5 with (first
   | (go_at_call 59; refine HC.out.mono ?_; rintro e w1 ⟨rfl, rfl⟩)
   | (go_at_call 66; refine HRn.out.mono ?_; rintro e w2 ⟨⟨B, rfl⟩, q2, b2⟩; have Q2 := hid q2; have B2 := hid b2; clear q2 b2 c1))
      obtain ⟨W3, hW3⟩ : ∃ W3, W3 = w2.alloc (.cells #[.int .i64 Ru, .int .u16 Rp, .string Rm, .int .i64 Rg, .bool true] 49) := ⟨_, rfl⟩
      have h11 := heap_alloc_new w2 (.cells #[.int .i64 Ru, .int .u16 Rp, .string Rm, .int .i64 Rg, .bool true] 49)
      obtain ⟨q3, b3, -⟩ := HA.out _ _ _ (.cells #[.int .i64 Ru, .int .u16 Rp, .string Rm, .int .i64 Rg, .bool true] 49) Q2.out B2.out
      rw [← hW3] at h11 q3 b3 ⊢
      have Z11 := hid (HB.out _ B2.out).2.2
      have Q3 := hid q3
      have B3 := hid b3
      have H11 := hid h11
      clear hW3 q3 b3 h11
      have s0 : GmC W3.drew g P X.now ∧ _ := ⟨HG.out _ _ _ (Q3.out.then0 (Touch.refl _ _).drew), (HB.out _ (B3.out.keep ((Touch.refl [] W3).drew).keeps)).1⟩
      have C1 : ∀ w', (GmC w' g P X.now ∧ (w'.cell? ⟨w.heap.size, 0, none⟩ = some (.int .i64 o.1) ∧ w'.cell? ⟨w.heap.size, 1, none⟩ = some (.int .i64 o.2.1) ∧ w'.cell? ⟨w.heap.size, 2, none⟩ = some (.int .i64 o.2.2.1) ∧ w'.cell? ⟨w.heap.size, 3, none⟩ = some (.int .i64 o.2.2.2))) → w'.cell? ⟨g, 1, none⟩ = some (.pointer (some ⟨P.t, 0, none⟩)) := fun _ h => h.1.c1
      have O0 : ∀ w', (GmC w' g P X.now ∧ (w'.cell? ⟨w.heap.size, 0, none⟩ = some (.int .i64 o.1) ∧ w'.cell? ⟨w.heap.size, 1, none⟩ = some (.int .i64 o.2.1) ∧ w'.cell? ⟨w.heap.size, 2, none⟩ = some (.int .i64 o.2.2.1) ∧ w'.cell? ⟨w.heap.size, 3, none⟩ = some (.int .i64 o.2.2.2))) → w'.cell? ⟨w.heap.size, 0, none⟩ = some (.int .i64 o.1) := fun _ h => h.2.1
      have O1 : ∀ w', (GmC w' g P X.now ∧ (w'.cell? ⟨w.heap.size, 0, none⟩ = some (.int .i64 o.1) ∧ w'.cell? ⟨w.heap.size, 1, none⟩ = some (.int .i64 o.2.1) ∧ w'.cell? ⟨w.heap.size, 2, none⟩ = some (.int .i64 o.2.2.1) ∧ w'.cell? ⟨w.heap.size, 3, none⟩ = some (.int .i64 o.2.2.2))) → w'.cell? ⟨w.heap.size, 1, none⟩ = some (.int .i64 o.2.1) := fun _ h => h.2.2.1
      have O2 : ∀ w', (GmC w' g P X.now ∧ (w'.cell? ⟨w.heap.size, 0, none⟩ = some (.int .i64 o.1) ∧ w'.cell? ⟨w.heap.size, 1, none⟩ = some (.int .i64 o.2.1) ∧ w'.cell? ⟨w.heap.size, 2, none⟩ = some (.int .i64 o.2.2.1) ∧ w'.cell? ⟨w.heap.size, 3, none⟩ = some (.int .i64 o.2.2.2))) → w'.cell? ⟨w.heap.size, 2, none⟩ = some (.int .i64 o.2.2.1) := fun _ h => h.2.2.2.1
      have O3 : ∀ w', (GmC w' g P X.now ∧ (w'.cell? ⟨w.heap.size, 0, none⟩ = some (.int .i64 o.1) ∧ w'.cell? ⟨w.heap.size, 1, none⟩ = some (.int .i64 o.2.1) ∧ w'.cell? ⟨w.heap.size, 2, none⟩ = some (.int .i64 o.2.2.1) ∧ w'.cell? ⟨w.heap.size, 3, none⟩ = some (.int .i64 o.2.2.2))) → w'.cell? ⟨w.heap.size, 3, none⟩ = some (.int .i64 o.2.2.2) := fun _ h => h.2.2.2.2
      refine wp_region_H (S := fun w' => GmC w' g P X.now ∧ (w'.cell? ⟨w.heap.size, 0, none⟩ = some (.int .i64 o.1) ∧ w'.cell? ⟨w.heap.size, 1, none⟩ = some (.int .i64 o.2.1) ∧ w'.cell? ⟨w.heap.size, 2, none⟩ = some (.int .i64 o.2.2.1) ∧ w'.cell? ⟨w.heap.size, 3, none⟩ = some (.int .i64 o.2.2.2))) (by kernel_rfl) ?_
      refine wpH_take (i := 0) (v := (.pointer (some ⟨g, 0, none⟩))) (some 35) rfl rfl (by kernel_rfl) (by kernel_rfl) (by kernel_rfl) (fun _ _ _ h => h) (Or.inl ⟨by rfl, fun w' hS => (by go_simp)⟩) s0 ?_
      try simp only [Go.Act.put, Zx, Zy, Zz]
      refine wpH_take (i := 1) (v := (.pointer (some ⟨g, 0, none⟩))) (some 36) rfl rfl (by kernel_rfl) (by kernel_rfl) (by kernel_rfl) (fun _ _ _ h => h) (Or.inl ⟨by rfl, fun w' hS => (by go_simp)⟩) s0 ?_
      try simp only [Go.Act.put, Zx, Zy, Zz]
      refine wpH_take (i := 2) (v := (.pointer (some ⟨g, 0, none⟩))) (some 37) rfl rfl (by kernel_rfl) (by kernel_rfl) (by kernel_rfl) (fun _ _ _ h => h) (Or.inl ⟨by rfl, fun w' hS => (by go_simp)⟩) s0 ?_
      try simp only [Go.Act.put, Zx, Zy, Zz]
      refine wpH_take (i := 3) (v := (.pointer (some ⟨g, 1, none⟩))) (some 38) rfl rfl (by kernel_rfl) (by kernel_rfl) (by kernel_rfl) (fun _ _ _ h => h) (Or.inl ⟨by rfl, fun w' hS => (by go_simp)⟩) s0 ?_
      try simp only [Go.Act.put, Zx, Zy, Zz]
      refine wpH_take (i := 4) (v := (.pointer (some ⟨P.t, 0, none⟩))) (some 39) rfl rfl (by kernel_rfl) (by kernel_rfl) (by kernel_rfl) (fun _ _ _ h => h) (Or.inl ⟨by rfl, fun w' hS => (by have z0 := C1 _ hS; go_simp)⟩) s0 ?_
      try simp only [Go.Act.put, Zx, Zy, Zz]
      refine wpH_take (i := 5) (v := (.int .i64 r)) (some 40) rfl rfl (by kernel_rfl) (by kernel_rfl) (by kernel_rfl) (fun _ _ _ h => h) (Or.inl ⟨by rfl, fun w' hS => (by go_simp)⟩) s0 ?_
      try simp only [Go.Act.put, Zx, Zy, Zz]
      refine wpH_take (i := 6) (v := (.agg #[.int .i64 o.1, .int .i64 o.2.1, .int .i64 o.2.2.1, .int .i64 o.2.2.2])) (some 41) rfl rfl (by kernel_rfl) (by kernel_rfl) (by kernel_rfl) (fun _ _ _ h => h) (Or.inl ⟨by rfl, fun w' hS => (by have z0 := O0 _ hS; have z1 := O1 _ hS; have z2 := O2 _ hS; have z3 := O3 _ hS; go_simp)⟩) s0 ?_
      try simp only [Go.Act.put, Zx, Zy, Zz]
      refine wpH_call (i := 7) (o := { dst := some 42, op := Op.call { callee := Callee.value (Operand.func 67), args := #[Operand.tmp 39, Operand.tmp 40, Operand.tmp 41], argTypes := #[103, 3, 39] }, type := 149, pos := _, after := #[{ on := 4, ground := Ground.data }, { on := 5, ground := Ground.data }, { on := 6, ground := Ground.data }], guard := none }) (by kernel_rfl) rfl (fun K' hK => ?_)
      rw [if_pos (by rfl)]
      go_simp
      refine (HE.out _ Q3.out B3.out).mono ?_
      rintro e w4 ⟨ta, tm, tc, rfl, v4, q4, b4, k4⟩
      have gq := HG.out _ _ _ q4
      have s4 : GmC w4 g P X.now ∧ _ := ⟨gq, (HB.out _ b4).1⟩
      clear gq
      have H11 := hid (k4 _ _ _ _ (by decide) H11.out)
      have V4 := hid v4
      have Q4 := hid q4
      have B4 := hid b4
      clear v4 q4 b4 k4
      refine hK.out _ _ s4 ?_
      clear hK
      try simp only [Go.Act.put, Zx, Zy, Zz]
      refine wpH_take (i := 8) (v := (.tuple #[(.slice ta tm tc), (.bool true), (.int .i64 0)])) (some 34) rfl rfl (by kernel_rfl) (by kernel_rfl) (by kernel_rfl) (fun _ _ _ h => h) (Or.inl ⟨by rfl, fun w' hS => (by go_simp)⟩) s4 ?_
      try simp only [Go.Act.put, Zx, Zy, Zz]
      refine wpH_take (i := 9) (v := (.slice ta tm tc)) (some 43) rfl rfl (by kernel_rfl) (by kernel_rfl) (by kernel_rfl) (fun _ _ _ h => h) (Or.inl ⟨by rfl, fun w' hS => (by go_simp)⟩) s4 ?_
      try simp only [Go.Act.put, Zx, Zy, Zz]
      refine wpH_take (i := 10) (v := (.bool true)) (some 44) rfl rfl (by kernel_rfl) (by kernel_rfl) (by kernel_rfl) (fun _ _ _ h => h) (Or.inl ⟨by rfl, fun w' hS => (by go_simp)⟩) s4 ?_
      try simp only [Go.Act.put, Zx, Zy, Zz]
      refine wpH_take (i := 11) (v := (.int .i64 0)) (some 45) rfl rfl (by kernel_rfl) (by kernel_rfl) (by kernel_rfl) (fun _ _ _ h => h) (Or.inl ⟨by rfl, fun w' hS => (by go_simp)⟩) s4 ?_
      try simp only [Go.Act.put, Zx, Zy, Zz]
      refine wpH_take (i := 12) (v := (.slice ta tm tc)) (some 13) rfl rfl (by kernel_rfl) (by kernel_rfl) (by kernel_rfl) (fun _ _ _ h => h) (Or.inl ⟨by rfl, fun w' hS => (by go_simp)⟩) s4 ?_
      try simp only [Go.Act.put, Zx, Zy, Zz]
      refine wpH_take (i := 13) (v := (.bool true)) (some 14) rfl rfl (by kernel_rfl) (by kernel_rfl) (by kernel_rfl) (fun _ _ _ h => h) (Or.inl ⟨by rfl, fun w' hS => (by go_simp)⟩) s4 ?_
      try simp only [Go.Act.put, Zx, Zy, Zz]
      refine wpH_take (i := 14) (v := (.int .i64 0)) (some 15) rfl rfl (by kernel_rfl) (by kernel_rfl) (by kernel_rfl) (fun _ _ _ h => h) (Or.inl ⟨by rfl, fun w' hS => (by go_simp)⟩) s4 ?_
      try simp only [Go.Act.put, Zx, Zy, Zz]
      refine wpAnyH_done (by kernel_rfl) ?_ _
      clear C1 O0 O1 O2 O3 s0
      have g4 := s4.1.f4
      have c4 := s4.1.c4
      clear s4
      obtain ⟨q5, b5, k5⟩ := HW.out _ Q4.out B4.out
      go_upto_region 9 with fail
      obtain ⟨W5, hW5⟩ : ∃ W5, W5 = w4.setCell ⟨g, 4, none⟩ (.int .i64 n) := ⟨_, rfl⟩
      rw [← hW5] at q5 b5 k5 ⊢
      have c3 := (HG.out _ _ _ q5).c3
      have H11 := hid (k5 _ _ _ _ (by decide) H11.out)
      have V5 := hid (Tv_keeps V4.out k5)
      have Q5 := hid q5
      have B5 := hid b5
      clear hW5 q5 b5 k5 g4 c4
      go_upto_region 10 with (go_at_call 68; refine (HSE.out _ Q5.out B5.out).mono ?_; rintro e w6 ⟨⟨xa, xm, xc, rfl⟩, q6, b6, k6⟩; have H11 := hid (k6 _ _ _ _ (by decide) H11.out); have V6 := hid (Tv_keeps V5.out k6); have H116 : Hid (w2.heap.size < w6.heap.size) := hid (block_lt H11.out); have Q6 := hid q6; have B6 := hid b6; clear q6 b6 k6 c3)
      have h11 := H11.out
      have y0 := cell_at (j := 0) h11 rfl
      have y1 := cell_at (j := 1) h11 rfl
      have y2 := cell_at (j := 2) h11 rfl
      have y3 := cell_at (j := 3) h11 rfl
      have y4 := cell_at (j := 4) h11 rfl
      clear h11
      go_upto_region 11 with fail
      obtain ⟨W7, hW7⟩ : ∃ W7, W7 = w6.alloc (.cells #[.int .i64 Ru, .int .u16 Rp, .string Rm, .int .i64 Rg, .bool true, .slice ta tm tc, .bool true, .bool false, .slice none 0 0, .slice none 0 0] 53) := ⟨_, rfl⟩
      have h16 := heap_alloc_new w6 (.cells #[.int .i64 Ru, .int .u16 Rp, .string Rm, .int .i64 Rg, .bool true, .slice ta tm tc, .bool true, .bool false, .slice none 0 0, .slice none 0 0] 53)
      obtain ⟨q7, b7, k7⟩ := HA.out _ _ _ (.cells #[.int .i64 Ru, .int .u16 Rp, .string Rm, .int .i64 Rg, .bool true, .slice ta tm tc, .bool true, .bool false, .slice none 0 0, .slice none 0 0] 53) Q6.out B6.out
      rw [← hW7] at h16 q7 b7 k7 ⊢
      have Z16 := hid (HB.out _ B6.out).2.2
      have H11 := hid (k7 _ _ _ _ (by decide) H11.out)
      have V7 := hid (Tv_keeps V6.out k7)
      have Q7 := hid q7
      have B7 := hid b7
      have H16 := hid h16
      clear hW7 q7 b7 k7 h16 y0 y1 y2 y3 y4
      have h11 := H11.out
      have y4 := cell_at (j := 4) h11 rfl
      obtain ⟨⟨o0, o1, o2, o3⟩, -, -⟩ := HB.out _ B7.out
      clear h11
      go_upto_region 14 with (go_at_call 69; refine (HIF.out _).mono ?_; rintro e w8 ⟨rfl, t8⟩; obtain ⟨q8, b8, k8⟩ := HT0.out _ _ _ _ Q7.out B7.out t8; have H11 := hid (k8 _ _ _ _ (by decide) H11.out); have H16 := hid (k8 _ _ _ _ (by decide) H16.out); have V8 := hid (Tv_keeps V7.out k8); have Q8 := hid q8; have B8 := hid b8; clear q8 b8 k8 t8 o0 o1 o2 o3 y4)
      have HDQ : Hid (DnQ w8 ⟨⟨Ru, Rp, Rm, Rg, true⟩, Ta.tEndL X.T r o, true, false, [], []⟩ o (.slice ta tm tc) (.slice none 0 0) (.slice none 0 0)) := hid ⟨V8.out, Me.RT.nil _ _, Snt.nil _⟩
      obtain ⟨-, hbj, -⟩ := HB.out _ B8.out
      have h16 := H16.out
      have x0 := cell_at (j := 0) h16 rfl
      have x1 := cell_at (j := 1) h16 rfl
      have x2 := cell_at (j := 2) h16 rfl
      have x3 := cell_at (j := 3) h16 rfl
      have x4 := cell_at (j := 4) h16 rfl
      have x5 := cell_at (j := 5) h16 rfl
      have x6 := cell_at (j := 6) h16 rfl
      have x7 := cell_at (j := 7) h16 rfl
      have x8 := cell_at (j := 8) h16 rfl
      have x9 := cell_at (j := 9) h16 rfl
      clear h16
      have d0 := cell_at (j := 0) hbj rfl
      have d1 := cell_at (j := 1) hbj rfl
      have d2 := cell_at (j := 2) hbj rfl
      have d3 := cell_at (j := 3) hbj rfl
      have d4 := cell_at (j := 4) hbj rfl
      have d5 := cell_at (j := 5) hbj rfl
      have d6 := cell_at (j := 6) hbj rfl
      have d7 := cell_at (j := 7) hbj rfl
      have d8 := cell_at (j := 8) hbj rfl
      have d9 := cell_at (j := 9) hbj rfl
      have df := froz_at hbj
      clear hbj
      go_wp2
      exact bodyPost_ret (v := .tuple #[.agg #[.int .i64 Ru, .int .u16 Rp, .string Rm, .int .i64 Rg, .bool true, .slice ta tm tc, .bool true, .bool false, .slice none 0 0, .slice none 0 0], .int .i64 0]) (by simp [results, Tryz.results29, go_sem, d0, d1, d2, d3, d4, d5, d6, d7, d8, d9]) rfl ⟨_, _, _, rfl, HF.out _ _ _ _ _ _ _ _ Q8.out B8.out HDQ.out (((((((((((Touch.refl _ _).setCell (Or.inl (by simp)) _).setCell (Or.inl (by simp)) _).setCell (Or.inl (by simp)) _).setCell (Or.inl (by simp)) _).setCell (Or.inl (by simp)) _).setCell (Or.inl (by simp)) _).setCell (Or.inl (by simp)) _).setCell (Or.inl (by simp)) _).setCell (Or.inl (by simp)) _).setCell (Or.inl (by simp)) _)⟩
    ·have hrf : R.rf = false := by simpa using hrf
     rw [hrf]
     simp only [Bool.false_and, Bool.not_false, if_true]
     clear HIF
     obtain ⟨Ru, Rp, Rm, Rg, Rf⟩ := R
     simp only at hrf
     subst hrf
     unfold Ta.rv at HRn
     unfold Ta.kOf kv at HKP
     simp only at HRn HKP ⊢
     unfold Me.ov PT at *
     generalize Me.kpB X.c X.mn n (edK X r) o = KB at *
     go_enter Tryz.func29, Tryz.ntmps29
     go_upto_region 1 with fail
     rw [← hV]
     clear hV
     have c1 := (HG.out _ _ _ HQ.out).c1
     go_upto_region 5 with (first
   | (go_at_call 59; refine HC.out.mono ?_; rintro e w1 ⟨rfl, rfl⟩)
   | (go_at_call 66; refine HRn.out.mono ?_; rintro e w2 ⟨⟨B, rfl⟩, q2, b2⟩; have Q2 := hid q2; have B2 := hid b2; clear q2 b2 c1))
     obtain ⟨W3, hW3⟩ : ∃ W3, W3 = w2.alloc (.cells #[.int .i64 Ru, .int .u16 Rp, .string Rm, .int .i64 Rg, .bool false] 49) := ⟨_, rfl⟩
     have h11 := heap_alloc_new w2 (.cells #[.int .i64 Ru, .int .u16 Rp, .string Rm, .int .i64 Rg, .bool false] 49)
     obtain ⟨q3, b3, -⟩ := HA.out _ _ _ (.cells #[.int .i64 Ru, .int .u16 Rp, .string Rm, .int .i64 Rg, .bool false] 49) Q2.out B2.out
     rw [← hW3] at h11 q3 b3 ⊢
     have Z11 := hid (HB.out _ B2.out).2.2
     have Q3 := hid q3
     have B3 := hid b3
     have H11 := hid h11
     clear hW3 q3 b3 h11
     have s0 : GmC W3.drew g P X.now ∧ _ := ⟨HG.out _ _ _ (Q3.out.then0 (Touch.refl _ _).drew), (HB.out _ (B3.out.keep ((Touch.refl [] W3).drew).keeps)).1⟩
     have C1 : ∀ w', (GmC w' g P X.now ∧ (w'.cell? ⟨w.heap.size, 0, none⟩ = some (.int .i64 o.1) ∧ w'.cell? ⟨w.heap.size, 1, none⟩ = some (.int .i64 o.2.1) ∧ w'.cell? ⟨w.heap.size, 2, none⟩ = some (.int .i64 o.2.2.1) ∧ w'.cell? ⟨w.heap.size, 3, none⟩ = some (.int .i64 o.2.2.2))) → w'.cell? ⟨g, 1, none⟩ = some (.pointer (some ⟨P.t, 0, none⟩)) := fun _ h => h.1.c1
     have O0 : ∀ w', (GmC w' g P X.now ∧ (w'.cell? ⟨w.heap.size, 0, none⟩ = some (.int .i64 o.1) ∧ w'.cell? ⟨w.heap.size, 1, none⟩ = some (.int .i64 o.2.1) ∧ w'.cell? ⟨w.heap.size, 2, none⟩ = some (.int .i64 o.2.2.1) ∧ w'.cell? ⟨w.heap.size, 3, none⟩ = some (.int .i64 o.2.2.2))) → w'.cell? ⟨w.heap.size, 0, none⟩ = some (.int .i64 o.1) := fun _ h => h.2.1
     have O1 : ∀ w', (GmC w' g P X.now ∧ (w'.cell? ⟨w.heap.size, 0, none⟩ = some (.int .i64 o.1) ∧ w'.cell? ⟨w.heap.size, 1, none⟩ = some (.int .i64 o.2.1) ∧ w'.cell? ⟨w.heap.size, 2, none⟩ = some (.int .i64 o.2.2.1) ∧ w'.cell? ⟨w.heap.size, 3, none⟩ = some (.int .i64 o.2.2.2))) → w'.cell? ⟨w.heap.size, 1, none⟩ = some (.int .i64 o.2.1) := fun _ h => h.2.2.1
     have O2 : ∀ w', (GmC w' g P X.now ∧ (w'.cell? ⟨w.heap.size, 0, none⟩ = some (.int .i64 o.1) ∧ w'.cell? ⟨w.heap.size, 1, none⟩ = some (.int .i64 o.2.1) ∧ w'.cell? ⟨w.heap.size, 2, none⟩ = some (.int .i64 o.2.2.1) ∧ w'.cell? ⟨w.heap.size, 3, none⟩ = some (.int .i64 o.2.2.2))) → w'.cell? ⟨w.heap.size, 2, none⟩ = some (.int .i64 o.2.2.1) := fun _ h => h.2.2.2.1
     have O3 : ∀ w', (GmC w' g P X.now ∧ (w'.cell? ⟨w.heap.size, 0, none⟩ = some (.int .i64 o.1) ∧ w'.cell? ⟨w.heap.size, 1, none⟩ = some (.int .i64 o.2.1) ∧ w'.cell? ⟨w.heap.size, 2, none⟩ = some (.int .i64 o.2.2.1) ∧ w'.cell? ⟨w.heap.size, 3, none⟩ = some (.int .i64 o.2.2.2))) → w'.cell? ⟨w.heap.size, 3, none⟩ = some (.int .i64 o.2.2.2) := fun _ h => h.2.2.2.2
     refine wp_region_H (S := fun w' => GmC w' g P X.now ∧ (w'.cell? ⟨w.heap.size, 0, none⟩ = some (.int .i64 o.1) ∧ w'.cell? ⟨w.heap.size, 1, none⟩ = some (.int .i64 o.2.1) ∧ w'.cell? ⟨w.heap.size, 2, none⟩ = some (.int .i64 o.2.2.1) ∧ w'.cell? ⟨w.heap.size, 3, none⟩ = some (.int .i64 o.2.2.2))) (by kernel_rfl) ?_
     refine wpH_take (i := 0) (v := (.pointer (some ⟨g, 0, none⟩))) (some 35) rfl rfl (by kernel_rfl) (by kernel_rfl) (by kernel_rfl) (fun _ _ _ h => h) (Or.inl ⟨by rfl, fun w' hS => (by go_simp)⟩) s0 ?_
     try simp only [Go.Act.put, Zx, Zy, Zz]
     refine wpH_take (i := 1) (v := (.pointer (some ⟨g, 0, none⟩))) (some 36) rfl rfl (by kernel_rfl) (by kernel_rfl) (by kernel_rfl) (fun _ _ _ h => h) (Or.inl ⟨by rfl, fun w' hS => (by go_simp)⟩) s0 ?_
     try simp only [Go.Act.put, Zx, Zy, Zz]
     refine wpH_take (i := 2) (v := (.pointer (some ⟨g, 0, none⟩))) (some 37) rfl rfl (by kernel_rfl) (by kernel_rfl) (by kernel_rfl) (fun _ _ _ h => h) (Or.inl ⟨by rfl, fun w' hS => (by go_simp)⟩) s0 ?_
     try simp only [Go.Act.put, Zx, Zy, Zz]
     refine wpH_take (i := 3) (v := (.pointer (some ⟨g, 1, none⟩))) (some 38) rfl rfl (by kernel_rfl) (by kernel_rfl) (by kernel_rfl) (fun _ _ _ h => h) (Or.inl ⟨by rfl, fun w' hS => (by go_simp)⟩) s0 ?_
     try simp only [Go.Act.put, Zx, Zy, Zz]
     refine wpH_take (i := 4) (v := (.pointer (some ⟨P.t, 0, none⟩))) (some 39) rfl rfl (by kernel_rfl) (by kernel_rfl) (by kernel_rfl) (fun _ _ _ h => h) (Or.inl ⟨by rfl, fun w' hS => (by have z0 := C1 _ hS; go_simp)⟩) s0 ?_
     try simp only [Go.Act.put, Zx, Zy, Zz]
     refine wpH_take (i := 5) (v := (.int .i64 r)) (some 40) rfl rfl (by kernel_rfl) (by kernel_rfl) (by kernel_rfl) (fun _ _ _ h => h) (Or.inl ⟨by rfl, fun w' hS => (by go_simp)⟩) s0 ?_
     try simp only [Go.Act.put, Zx, Zy, Zz]
     refine wpH_take (i := 6) (v := (.agg #[.int .i64 o.1, .int .i64 o.2.1, .int .i64 o.2.2.1, .int .i64 o.2.2.2])) (some 41) rfl rfl (by kernel_rfl) (by kernel_rfl) (by kernel_rfl) (fun _ _ _ h => h) (Or.inl ⟨by rfl, fun w' hS => (by have z0 := O0 _ hS; have z1 := O1 _ hS; have z2 := O2 _ hS; have z3 := O3 _ hS; go_simp)⟩) s0 ?_
     try simp only [Go.Act.put, Zx, Zy, Zz]
     refine wpH_call (i := 7) (o := { dst := some 42, op := Op.call { callee := Callee.value (Operand.func 67), args := #[Operand.tmp 39, Operand.tmp 40, Operand.tmp 41], argTypes := #[103, 3, 39] }, type := 149, pos := _, after := #[{ on := 4, ground := Ground.data }, { on := 5, ground := Ground.data }, { on := 6, ground := Ground.data }], guard := none }) (by kernel_rfl) rfl (fun K' hK => ?_)
     rw [if_pos (by rfl)]
     go_simp
     refine (HE.out _ Q3.out B3.out).mono ?_
     rintro e w4 ⟨ta, tm, tc, rfl, v4, q4, b4, k4⟩
     have gq := HG.out _ _ _ q4
     have s4 : GmC w4 g P X.now ∧ _ := ⟨gq, (HB.out _ b4).1⟩
     clear gq
     have H11 := hid (k4 _ _ _ _ (by decide) H11.out)
     have V4 := hid v4
     have Q4 := hid q4
     have B4 := hid b4
     clear v4 q4 b4 k4
     refine hK.out _ _ s4 ?_
     clear hK
     try simp only [Go.Act.put, Zx, Zy, Zz]
     refine wpH_take (i := 8) (v := (.tuple #[(.slice ta tm tc), (.bool true), (.int .i64 0)])) (some 34) rfl rfl (by kernel_rfl) (by kernel_rfl) (by kernel_rfl) (fun _ _ _ h => h) (Or.inl ⟨by rfl, fun w' hS => (by go_simp)⟩) s4 ?_
     try simp only [Go.Act.put, Zx, Zy, Zz]
     refine wpH_take (i := 9) (v := (.slice ta tm tc)) (some 43) rfl rfl (by kernel_rfl) (by kernel_rfl) (by kernel_rfl) (fun _ _ _ h => h) (Or.inl ⟨by rfl, fun w' hS => (by go_simp)⟩) s4 ?_
     try simp only [Go.Act.put, Zx, Zy, Zz]
     refine wpH_take (i := 10) (v := (.bool true)) (some 44) rfl rfl (by kernel_rfl) (by kernel_rfl) (by kernel_rfl) (fun _ _ _ h => h) (Or.inl ⟨by rfl, fun w' hS => (by go_simp)⟩) s4 ?_
     try simp only [Go.Act.put, Zx, Zy, Zz]
     refine wpH_take (i := 11) (v := (.int .i64 0)) (some 45) rfl rfl (by kernel_rfl) (by kernel_rfl) (by kernel_rfl) (fun _ _ _ h => h) (Or.inl ⟨by rfl, fun w' hS => (by go_simp)⟩) s4 ?_
     try simp only [Go.Act.put, Zx, Zy, Zz]
     refine wpH_take (i := 12) (v := (.slice ta tm tc)) (some 13) rfl rfl (by kernel_rfl) (by kernel_rfl) (by kernel_rfl) (fun _ _ _ h => h) (Or.inl ⟨by rfl, fun w' hS => (by go_simp)⟩) s4 ?_
     try simp only [Go.Act.put, Zx, Zy, Zz]
     refine wpH_take (i := 13) (v := (.bool true)) (some 14) rfl rfl (by kernel_rfl) (by kernel_rfl) (by kernel_rfl) (fun _ _ _ h => h) (Or.inl ⟨by rfl, fun w' hS => (by go_simp)⟩) s4 ?_
     try simp only [Go.Act.put, Zx, Zy, Zz]
     refine wpH_take (i := 14) (v := (.int .i64 0)) (some 15) rfl rfl (by kernel_rfl) (by kernel_rfl) (by kernel_rfl) (fun _ _ _ h => h) (Or.inl ⟨by rfl, fun w' hS => (by go_simp)⟩) s4 ?_
     try simp only [Go.Act.put, Zx, Zy, Zz]
     refine wpAnyH_done (by kernel_rfl) ?_ _
     clear C1 O0 O1 O2 O3 s0
     have g4 := s4.1.f4
     have c4 := s4.1.c4
     clear s4
     obtain ⟨q5, b5, k5⟩ := HW.out _ Q4.out B4.out
     go_upto_region 9 with fail
     obtain ⟨W5, hW5⟩ : ∃ W5, W5 = w4.setCell ⟨g, 4, none⟩ (.int .i64 n) := ⟨_, rfl⟩
     rw [← hW5] at q5 b5 k5 ⊢
     have c3 := (HG.out _ _ _ q5).c3
     have H11 := hid (k5 _ _ _ _ (by decide) H11.out)
     have V5 := hid (Tv_keeps V4.out k5)
     have Q5 := hid q5
     have B5 := hid b5
     clear hW5 q5 b5 k5 g4 c4
     go_upto_region 10 with (go_at_call 68; refine (HSE.out _ Q5.out B5.out).mono ?_; rintro e w6 ⟨⟨xa, xm, xc, rfl⟩, q6, b6, k6⟩; have H11 := hid (k6 _ _ _ _ (by decide) H11.out); have V6 := hid (Tv_keeps V5.out k6); have H116 : Hid (w2.heap.size < w6.heap.size) := hid (block_lt H11.out); have Q6 := hid q6; have B6 := hid b6; clear q6 b6 k6 c3)
     have h11 := H11.out
     have y0 := cell_at (j := 0) h11 rfl
     have y1 := cell_at (j := 1) h11 rfl
     have y2 := cell_at (j := 2) h11 rfl
     have y3 := cell_at (j := 3) h11 rfl
     have y4 := cell_at (j := 4) h11 rfl
     clear h11
     go_upto_region 11 with fail
     obtain ⟨W7, hW7⟩ : ∃ W7, W7 = w6.alloc (.cells #[.int .i64 Ru, .int .u16 Rp, .string Rm, .int .i64 Rg, .bool false, .slice ta tm tc, .bool true, .bool false, .slice none 0 0, .slice none 0 0] 53) := ⟨_, rfl⟩
     have h16 := heap_alloc_new w6 (.cells #[.int .i64 Ru, .int .u16 Rp, .string Rm, .int .i64 Rg, .bool false, .slice ta tm tc, .bool true, .bool false, .slice none 0 0, .slice none 0 0] 53)
     obtain ⟨q7, b7, k7⟩ := HA.out _ _ _ (.cells #[.int .i64 Ru, .int .u16 Rp, .string Rm, .int .i64 Rg, .bool false, .slice ta tm tc, .bool true, .bool false, .slice none 0 0, .slice none 0 0] 53) Q6.out B6.out
     rw [← hW7] at h16 q7 b7 k7 ⊢
     have Z16 := hid (HB.out _ B6.out).2.2
     have H11 := hid (k7 _ _ _ _ (by decide) H11.out)
     have V7 := hid (Tv_keeps V6.out k7)
     have Q7 := hid q7
     have B7 := hid b7
     have H16 := hid h16
     clear hW7 q7 b7 k7 h16 y0 y1 y2 y3 y4
     have h11 := H11.out
     have y4 := cell_at (j := 4) h11 rfl
     obtain ⟨⟨o0, o1, o2, o3⟩, -, -⟩ := HB.out _ B7.out
     clear h11
     go_upto_region 12 with fail
     have V8 := V7
     have Q8 := Q7
     have B8 := B7
     clear o0 o1 o2 o3 y4
     have gq := HG.out _ _ _ (Q8.out.then0 ((Touch.refl [] W7).drew))
     have s8 : GmC W7.drew g P n ∧ _ ∧ _ ∧ _ := ⟨gq, (HB.out _ (B8.out.keep ((Touch.refl [] W7).drew).keeps)).1, cell_at (j := 1) (v := .int .u16 Rp) (((Touch.refl [] W7).drew).keep H11.out (by simp)) rfl, cell_at (j := 2) (v := .string Rm) (((Touch.refl [] W7).drew).keep H11.out (by simp)) rfl⟩
     have C0 : ∀ w', (GmC w' g P n ∧ (w'.cell? ⟨w.heap.size, 0, none⟩ = some (.int .i64 o.1) ∧ w'.cell? ⟨w.heap.size, 1, none⟩ = some (.int .i64 o.2.1) ∧ w'.cell? ⟨w.heap.size, 2, none⟩ = some (.int .i64 o.2.2.1) ∧ w'.cell? ⟨w.heap.size, 3, none⟩ = some (.int .i64 o.2.2.2)) ∧ w'.cell? ⟨w2.heap.size, 1, none⟩ = some (.int .u16 Rp) ∧ w'.cell? ⟨w2.heap.size, 2, none⟩ = some (.string Rm)) → w'.cell? ⟨g, 0, none⟩ = some (.pointer (some ⟨P.m, 0, none⟩)) := fun _ h => h.1.c0
     have Y1 : ∀ w', (GmC w' g P n ∧ (w'.cell? ⟨w.heap.size, 0, none⟩ = some (.int .i64 o.1) ∧ w'.cell? ⟨w.heap.size, 1, none⟩ = some (.int .i64 o.2.1) ∧ w'.cell? ⟨w.heap.size, 2, none⟩ = some (.int .i64 o.2.2.1) ∧ w'.cell? ⟨w.heap.size, 3, none⟩ = some (.int .i64 o.2.2.2)) ∧ w'.cell? ⟨w2.heap.size, 1, none⟩ = some (.int .u16 Rp) ∧ w'.cell? ⟨w2.heap.size, 2, none⟩ = some (.string Rm)) → w'.cell? ⟨w2.heap.size, 1, none⟩ = some (.int .u16 Rp) := fun _ h => h.2.2.1
     have Y2 : ∀ w', (GmC w' g P n ∧ (w'.cell? ⟨w.heap.size, 0, none⟩ = some (.int .i64 o.1) ∧ w'.cell? ⟨w.heap.size, 1, none⟩ = some (.int .i64 o.2.1) ∧ w'.cell? ⟨w.heap.size, 2, none⟩ = some (.int .i64 o.2.2.1) ∧ w'.cell? ⟨w.heap.size, 3, none⟩ = some (.int .i64 o.2.2.2)) ∧ w'.cell? ⟨w2.heap.size, 1, none⟩ = some (.int .u16 Rp) ∧ w'.cell? ⟨w2.heap.size, 2, none⟩ = some (.string Rm)) → w'.cell? ⟨w2.heap.size, 2, none⟩ = some (.string Rm) := fun _ h => h.2.2.2
     have O0 : ∀ w', (GmC w' g P n ∧ (w'.cell? ⟨w.heap.size, 0, none⟩ = some (.int .i64 o.1) ∧ w'.cell? ⟨w.heap.size, 1, none⟩ = some (.int .i64 o.2.1) ∧ w'.cell? ⟨w.heap.size, 2, none⟩ = some (.int .i64 o.2.2.1) ∧ w'.cell? ⟨w.heap.size, 3, none⟩ = some (.int .i64 o.2.2.2)) ∧ w'.cell? ⟨w2.heap.size, 1, none⟩ = some (.int .u16 Rp) ∧ w'.cell? ⟨w2.heap.size, 2, none⟩ = some (.string Rm)) → w'.cell? ⟨w.heap.size, 0, none⟩ = some (.int .i64 o.1) := fun _ h => h.2.1.1
     have O1 : ∀ w', (GmC w' g P n ∧ (w'.cell? ⟨w.heap.size, 0, none⟩ = some (.int .i64 o.1) ∧ w'.cell? ⟨w.heap.size, 1, none⟩ = some (.int .i64 o.2.1) ∧ w'.cell? ⟨w.heap.size, 2, none⟩ = some (.int .i64 o.2.2.1) ∧ w'.cell? ⟨w.heap.size, 3, none⟩ = some (.int .i64 o.2.2.2)) ∧ w'.cell? ⟨w2.heap.size, 1, none⟩ = some (.int .u16 Rp) ∧ w'.cell? ⟨w2.heap.size, 2, none⟩ = some (.string Rm)) → w'.cell? ⟨w.heap.size, 1, none⟩ = some (.int .i64 o.2.1) := fun _ h => h.2.1.2.1
     have O2 : ∀ w', (GmC w' g P n ∧ (w'.cell? ⟨w.heap.size, 0, none⟩ = some (.int .i64 o.1) ∧ w'.cell? ⟨w.heap.size, 1, none⟩ = some (.int .i64 o.2.1) ∧ w'.cell? ⟨w.heap.size, 2, none⟩ = some (.int .i64 o.2.2.1) ∧ w'.cell? ⟨w.heap.size, 3, none⟩ = some (.int .i64 o.2.2.2)) ∧ w'.cell? ⟨w2.heap.size, 1, none⟩ = some (.int .u16 Rp) ∧ w'.cell? ⟨w2.heap.size, 2, none⟩ = some (.string Rm)) → w'.cell? ⟨w.heap.size, 2, none⟩ = some (.int .i64 o.2.2.1) := fun _ h => h.2.1.2.2.1
     have O3 : ∀ w', (GmC w' g P n ∧ (w'.cell? ⟨w.heap.size, 0, none⟩ = some (.int .i64 o.1) ∧ w'.cell? ⟨w.heap.size, 1, none⟩ = some (.int .i64 o.2.1) ∧ w'.cell? ⟨w.heap.size, 2, none⟩ = some (.int .i64 o.2.2.1) ∧ w'.cell? ⟨w.heap.size, 3, none⟩ = some (.int .i64 o.2.2.2)) ∧ w'.cell? ⟨w2.heap.size, 1, none⟩ = some (.int .u16 Rp) ∧ w'.cell? ⟨w2.heap.size, 2, none⟩ = some (.string Rm)) → w'.cell? ⟨w.heap.size, 3, none⟩ = some (.int .i64 o.2.2.2) := fun _ h => h.2.1.2.2.2
     refine wp_region_H (S := fun w' => GmC w' g P n ∧ (w'.cell? ⟨w.heap.size, 0, none⟩ = some (.int .i64 o.1) ∧ w'.cell? ⟨w.heap.size, 1, none⟩ = some (.int .i64 o.2.1) ∧ w'.cell? ⟨w.heap.size, 2, none⟩ = some (.int .i64 o.2.2.1) ∧ w'.cell? ⟨w.heap.size, 3, none⟩ = some (.int .i64 o.2.2.2)) ∧ w'.cell? ⟨w2.heap.size, 1, none⟩ = some (.int .u16 Rp) ∧ w'.cell? ⟨w2.heap.size, 2, none⟩ = some (.string Rm)) (by kernel_rfl) ?_
     refine wpH_take (i := 0) (v := (.pointer (some ⟨g, 0, none⟩))) (some 76) rfl rfl (by kernel_rfl) (by kernel_rfl) (by kernel_rfl) (fun _ _ _ h => h) (Or.inl ⟨by rfl, fun w' hS => (by go_simp)⟩) s8 ?_
     try simp only [Go.Act.put, Zx, Zy, Zz]
     refine wpH_take (i := 1) (v := (.pointer (some ⟨g, 0, none⟩))) (some 77) rfl rfl (by kernel_rfl) (by kernel_rfl) (by kernel_rfl) (fun _ _ _ h => h) (Or.inl ⟨by rfl, fun w' hS => (by go_simp)⟩) s8 ?_
     try simp only [Go.Act.put, Zx, Zy, Zz]
     refine wpH_take (i := 2) (v := (.pointer (some ⟨g, 0, none⟩))) (some 78) rfl rfl (by kernel_rfl) (by kernel_rfl) (by kernel_rfl) (fun _ _ _ h => h) (Or.inl ⟨by rfl, fun w' hS => (by go_simp)⟩) s8 ?_
     try simp only [Go.Act.put, Zx, Zy, Zz]
     refine wpH_take (i := 3) (v := (.pointer (some ⟨g, 0, none⟩))) (some 79) rfl rfl (by kernel_rfl) (by kernel_rfl) (by kernel_rfl) (fun _ _ _ h => h) (Or.inl ⟨by rfl, fun w' hS => (by go_simp)⟩) s8 ?_
     try simp only [Go.Act.put, Zx, Zy, Zz]
     refine wpH_take (i := 4) (v := (.pointer (some ⟨P.m, 0, none⟩))) (some 80) rfl rfl (by kernel_rfl) (by kernel_rfl) (by kernel_rfl) (fun _ _ _ h => h) (Or.inl ⟨by rfl, fun w' hS => (by have z0 := C0 _ hS; go_simp)⟩) s8 ?_
     try simp only [Go.Act.put, Zx, Zy, Zz]
     refine wpH_take (i := 5) (v := (.int .i64 n)) (some 81) rfl rfl (by kernel_rfl) (by kernel_rfl) (by kernel_rfl) (fun _ _ _ h => h) (Or.inl ⟨by rfl, fun w' hS => (by go_simp)⟩) s8 ?_
     try simp only [Go.Act.put, Zx, Zy, Zz]
     refine wpH_take (i := 6) (v := (.pointer (some ⟨w2.heap.size, 1, none⟩))) (some 82) rfl rfl (by kernel_rfl) (by kernel_rfl) (by kernel_rfl) (fun _ _ _ h => h) (Or.inl ⟨by rfl, fun w' hS => (by go_simp)⟩) s8 ?_
     try simp only [Go.Act.put, Zx, Zy, Zz]
     refine wpH_take (i := 7) (v := (.agg #[.int .u16 Rp, .string Rm])) (some 83) rfl rfl (by kernel_rfl) (by kernel_rfl) (by kernel_rfl) (fun _ _ _ h => h) (Or.inl ⟨by rfl, fun w' hS => (by have z0 := Y1 _ hS; have z1 := Y2 _ hS; go_simp)⟩) s8 ?_
     try simp only [Go.Act.put, Zx, Zy, Zz]
     refine wpH_take (i := 8) (v := (.agg #[.int .i64 o.1, .int .i64 o.2.1, .int .i64 o.2.2.1, .int .i64 o.2.2.2])) (some 84) rfl rfl (by kernel_rfl) (by kernel_rfl) (by kernel_rfl) (fun _ _ _ h => h) (Or.inl ⟨by rfl, fun w' hS => (by have z0 := O0 _ hS; have z1 := O1 _ hS; have z2 := O2 _ hS; have z3 := O3 _ hS; go_simp)⟩) s8 ?_
     try simp only [Go.Act.put, Zx, Zy, Zz]
     refine wpH_call (i := 9) (o := { dst := some 85, op := Op.call { callee := Callee.value (Operand.func 70), args := #[Operand.tmp 80, Operand.tmp 81, Operand.tmp 83, Operand.tmp 84], argTypes := #[91, 2, 35, 39] }, type := 152, pos := _, after := #[{ on := 4, ground := Ground.data }, { on := 5, ground := Ground.data }, { on := 7, ground := Ground.data }, { on := 8, ground := Ground.data }], guard := none }) (by kernel_rfl) rfl (fun K' hK => ?_)
     rw [if_pos (by rfl)]
     go_simp
     refine (HKP.out _ Q8.out B8.out).mono ?_
     rintro e w9 ⟨ga, gm, gc, E, rfl, r9, ok9, q9, b9, k9⟩
     have H11 := hid (k9 _ _ _ _ (by decide) H11.out)
     have H16 := hid (k9 _ _ _ _ (by decide) H16.out)
     have V9 := hid (Tv_keeps V8.out k9)
     have gq := HG.out _ _ _ q9
     have s9 : GmC w9 g P n ∧ _ ∧ _ ∧ _ := ⟨gq, (HB.out _ b9).1, cell_at (j := 1) (v := .int .u16 Rp) H11.out rfl, cell_at (j := 2) (v := .string Rm) H11.out rfl⟩
     have H169 := H16
     have R9 := hid r9
     have OK9 := hid ok9
     have Q9 := hid q9
     have B9 := hid b9
     clear r9 ok9 q9 b9 k9
     refine hK.out _ _ s9 ?_
     clear hK
     try simp only [Go.Act.put, Zx, Zy, Zz]
     refine wpH_take (i := 10) (v := (.tuple #[(.bool KB), (.slice ga gm gc), (.int .i64 E)])) (some 75) rfl rfl (by kernel_rfl) (by kernel_rfl) (by kernel_rfl) (fun _ _ _ h => h) (Or.inl ⟨by rfl, fun w' hS => (by go_simp)⟩) s9 ?_
     try simp only [Go.Act.put, Zx, Zy, Zz]
     refine wpH_take (i := 11) (v := (.bool KB)) (some 86) rfl rfl (by kernel_rfl) (by kernel_rfl) (by kernel_rfl) (fun _ _ _ h => h) (Or.inl ⟨by rfl, fun w' hS => (by go_simp)⟩) s9 ?_
     try simp only [Go.Act.put, Zx, Zy, Zz]
     refine wpH_take (i := 12) (v := (.slice ga gm gc)) (some 87) rfl rfl (by kernel_rfl) (by kernel_rfl) (by kernel_rfl) (fun _ _ _ h => h) (Or.inl ⟨by rfl, fun w' hS => (by go_simp)⟩) s9 ?_
     try simp only [Go.Act.put, Zx, Zy, Zz]
     refine wpH_take (i := 13) (v := (.int .i64 E)) (some 88) rfl rfl (by kernel_rfl) (by kernel_rfl) (by kernel_rfl) (fun _ _ _ h => h) (Or.inl ⟨by rfl, fun w' hS => (by go_simp)⟩) s9 ?_
     try simp only [Go.Act.put, Zx, Zy, Zz]
     refine wpH_take (i := 14) (v := (.pointer (some ⟨w6.heap.size, 7, none⟩))) (some 89) rfl rfl (by kernel_rfl) (by kernel_rfl) (by kernel_rfl) (fun _ _ _ h => h) (Or.inl ⟨by rfl, fun w' hS => (by go_simp)⟩) s9 ?_
     try simp only [Go.Act.put, Zx, Zy, Zz]
     refine wpH_call (i := 15) (o := { dst := none, op := Op.store 4 (Operand.tmp 89) (Operand.tmp 86), type := 0, pos := _, after := #[{ on := 14, ground := Ground.data }, { on := 11, ground := Ground.data }, { on := 9, ground := Ground.chain }, { on := 0, ground := Ground.phase }, { on := 1, ground := Ground.phase }, { on := 2, ground := Ground.phase }, { on := 3, ground := Ground.phase }, { on := 4, ground := Ground.phase }, { on := 5, ground := Ground.phase }, { on := 6, ground := Ground.phase }, { on := 7, ground := Ground.phase }, { on := 8, ground := Ground.phase }, { on := 9, ground := Ground.phase }, { on := 10, ground := Ground.phase }, { on := 11, ground := Ground.phase }, { on := 12, ground := Ground.textOnly Departure.lateStores }, { on := 13, ground := Ground.textOnly Departure.lateStores }], guard := none }) (by kernel_rfl) rfl (fun K' hK => ?_)
     rw [if_pos (by rfl)]
     have x7 := cell_at (j := 7) H16.out rfl
     have xf := froz_at H16.out
     go_simp
     obtain ⟨WA, hWA⟩ : ∃ W, W = w9.setCell ⟨w6.heap.size, 7, none⟩ (.bool KB) := ⟨_, rfl⟩
     have tWA : Touch [w6.heap.size] w9 WA := by rw [hWA]; exact ((Touch.refl _ _).setCell (Or.inl (by simp)) _)
     have eWA := dn7 H16.out (.bool KB)
     rw [← hWA] at eWA ⊢
     obtain ⟨qA, bA'⟩ := HP.out _ _ _ _ _ _ Z16.out H16.out Q9.out B9.out tWA
     have H11 := hid (tWA.keep H11.out (by have := H116.out; simp; omega))
     have H16 := hid eWA
     have gq := HG.out _ _ _ qA
     have sA : GmC WA g P n ∧ _ ∧ _ ∧ _ := ⟨gq, (HB.out _ bA').1, cell_at (j := 1) (v := .int .u16 Rp) H11.out rfl, cell_at (j := 2) (v := .string Rm) H11.out rfl⟩
     have QA := hid qA
     have BA := hid bA'
     have KWA := hid tWA
     clear hWA tWA eWA qA bA'
     clear x7 xf
     refine hK.out _ _ sA ?_
     clear hK
     try simp only [Go.Act.put, Zx, Zy, Zz]
     refine wpH_take (i := 16) (v := (.pointer (some ⟨w6.heap.size, 8, none⟩))) (some 90) rfl rfl (by kernel_rfl) (by kernel_rfl) (by kernel_rfl) (fun _ _ _ h => h) (Or.inl ⟨by rfl, fun w' hS => (by go_simp)⟩) sA ?_
     try simp only [Go.Act.put, Zx, Zy, Zz]
     refine wpH_call (i := 17) (o := { dst := none, op := Op.store 51 (Operand.tmp 90) (Operand.tmp 87), type := 0, pos := _, after := #[{ on := 16, ground := Ground.data }, { on := 12, ground := Ground.data }, { on := 15, ground := Ground.chain }, { on := 0, ground := Ground.phase }, { on := 1, ground := Ground.phase }, { on := 2, ground := Ground.phase }, { on := 3, ground := Ground.phase }, { on := 4, ground := Ground.phase }, { on := 5, ground := Ground.phase }, { on := 6, ground := Ground.phase }, { on := 7, ground := Ground.phase }, { on := 8, ground := Ground.phase }, { on := 9, ground := Ground.phase }, { on := 10, ground := Ground.phase }, { on := 11, ground := Ground.phase }, { on := 12, ground := Ground.phase }, { on := 13, ground := Ground.textOnly Departure.lateStores }, { on := 14, ground := Ground.phase }, { on := 15, ground := Ground.phase }], guard := none }) (by kernel_rfl) rfl (fun K' hK => ?_)
     rw [if_pos (by rfl)]
     have x7 := cell_at (j := 8) H16.out rfl
     have xf := froz_at H16.out
     go_simp
     obtain ⟨WB, hWB⟩ : ∃ W, W = WA.setCell ⟨w6.heap.size, 8, none⟩ (.slice ga gm gc) := ⟨_, rfl⟩
     have tWB : Touch [w6.heap.size] WA WB := by rw [hWB]; exact ((Touch.refl _ _).setCell (Or.inl (by simp)) _)
     have eWB := dn8 H16.out (.slice ga gm gc)
     rw [← hWB] at eWB ⊢
     obtain ⟨qB, bB'⟩ := HP.out _ _ _ _ _ _ Z16.out H16.out QA.out BA.out tWB
     have H11 := hid (tWB.keep H11.out (by have := H116.out; simp; omega))
     have H16 := hid eWB
     have gq := HG.out _ _ _ qB
     have sB : GmC WB g P n ∧ _ ∧ _ ∧ _ := ⟨gq, (HB.out _ bB').1, cell_at (j := 1) (v := .int .u16 Rp) H11.out rfl, cell_at (j := 2) (v := .string Rm) H11.out rfl⟩
     have QB := hid qB
     have BB := hid bB'
     have KWB := hid tWB
     clear hWB tWB eWB qB bB'
     clear x7 xf
     refine hK.out _ _ sB ?_
     clear hK
     try simp only [Go.Act.put, Zx, Zy, Zz]
     refine wpAnyH_done (by kernel_rfl) ?_ _
     clear C0 Y1 Y2 O0 O1 O2 O3 s8 s9 sA sB
     have h16 := H16.out
     have x0 := cell_at (j := 0) h16 rfl
     have x1 := cell_at (j := 1) h16 rfl
     have x2 := cell_at (j := 2) h16 rfl
     have x3 := cell_at (j := 3) h16 rfl
     have x4 := cell_at (j := 4) h16 rfl
     have x5 := cell_at (j := 5) h16 rfl
     have x6 := cell_at (j := 6) h16 rfl
     have x7 := cell_at (j := 7) h16 rfl
     have x8 := cell_at (j := 8) h16 rfl
     have x9 := cell_at (j := 9) h16 rfl
     have xf := froz_at h16
     have z16b : w6.heap.size ≠ w.heap.size + 1 := by have := Z16.out; omega
     have TAB := hid (KWA.out.trans' KWB.out)
     have HRB : Hid (Me.RT 35 WB (.slice ga gm gc) (edG X n r o)) := hid (RT_box R9.out H169.out TAB.out)
     have VB := hid (Tv_box V9.out H169.out TAB.out)
     clear h16
     go_upto_region 14 with (go_at_call 71; refine (HRL.out _ _ QB.out BB.out HRB.out OK9.out).mono ?_; rintro e wc ⟨la, lm, lc, rfl, nC, qC, bC, kC⟩; have H16 := hid (kC _ _ _ _ (by decide) H16.out); have hC := H16.out; clear x0 x1 x2 x3 x4 x5 x6 x7 x8 x9 xf; have x9 := cell_at (j := 9) hC rfl; have xf := froz_at hC; have RC := hid (RT_keeps HRB.out kC); have VC := hid (Tv_keeps VB.out kC); have NC := hid nC; have QC := hid qC; have BC := hid bC; clear hC nC qC bC kC)
     obtain ⟨WD, hWD⟩ : ∃ W, W = wc.setCell ⟨w6.heap.size, 9, none⟩ (.slice la lm lc) := ⟨_, rfl⟩
     have tD : Touch [w6.heap.size] wc WD := by rw [hWD]; exact ((Touch.refl _ _).setCell (Or.inl (by simp)) _)
     have eD := dn9 H16.out (.slice la lm lc)
     rw [← hWD] at eD ⊢
     obtain ⟨qD, bD⟩ := HP.out _ _ _ _ _ _ Z16.out H16.out QC.out BC.out tD
     have HDQ : Hid (DnQ WD ⟨⟨Ru, Rp, Rm, Rg, false⟩, Ta.tEndL X.T r o, true, KB, edG X n r o, rlL (ed2 X n r o) (edG X n r o)⟩ o (.slice ta tm tc) (.slice ga gm gc) (.slice la lm lc)) := hid (DnQ.put (D := ⟨⟨Ru, Rp, Rm, Rg, false⟩, Ta.tEndL X.T r o, true, KB, edG X n r o, rlL (ed2 X n r o) (edG X n r o)⟩) ⟨VC.out, RC.out, NC.out⟩ H16.out tD)
     have H16 := hid eD
     have QD := hid qD
     have BD := hid bD
     clear hWD tD eD qD bD x9 xf z16b
     obtain ⟨-, hbj, -⟩ := HB.out _ BD.out
     have h16 := H16.out
     have x0 := cell_at (j := 0) h16 rfl
     have x1 := cell_at (j := 1) h16 rfl
     have x2 := cell_at (j := 2) h16 rfl
     have x3 := cell_at (j := 3) h16 rfl
     have x4 := cell_at (j := 4) h16 rfl
     have x5 := cell_at (j := 5) h16 rfl
     have x6 := cell_at (j := 6) h16 rfl
     have x7 := cell_at (j := 7) h16 rfl
     have x8 := cell_at (j := 8) h16 rfl
     have x9 := cell_at (j := 9) h16 rfl
     clear h16
     have d0 := cell_at (j := 0) hbj rfl
     have d1 := cell_at (j := 1) hbj rfl
     have d2 := cell_at (j := 2) hbj rfl
     have d3 := cell_at (j := 3) hbj rfl
     have d4 := cell_at (j := 4) hbj rfl
     have d5 := cell_at (j := 5) hbj rfl
     have d6 := cell_at (j := 6) hbj rfl
     have d7 := cell_at (j := 7) hbj rfl
     have d8 := cell_at (j := 8) hbj rfl
     have d9 := cell_at (j := 9) hbj rfl
     have df := froz_at hbj
     clear hbj
     go_wp2
     exact bodyPost_ret (v := .tuple #[.agg #[.int .i64 Ru, .int .u16 Rp, .string Rm, .int .i64 Rg, .bool false, .slice ta tm tc, .bool true, .bool KB, .slice ga gm gc, .slice la lm lc], .int .i64 0]) (by simp [results, Tryz.results29, go_sem, d0, d1, d2, d3, d4, d5, d6, d7, d8, d9]) rfl ⟨_, _, _, rfl, HF.out _ _ _ _ _ _ _ _ QD.out BD.out HDQ.out (((((((((((Touch.refl _ _).setCell (Or.inl (by simp)) _).setCell (Or.inl (by simp)) _).setCell (Or.inl (by simp)) _).setCell (Or.inl (by simp)) _).setCell (Or.inl (by simp)) _).setCell (Or.inl (by simp)) _).setCell (Or.inl (by simp)) _).setCell (Or.inl (by simp)) _).setCell (Or.inl (by simp)) _).setCell (Or.inl (by simp)) _)⟩
end
end Go.Proofs.YtllchnancjgijaaGreat
