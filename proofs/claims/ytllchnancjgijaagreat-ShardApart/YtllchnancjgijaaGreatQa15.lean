/- The contract of End; no conditions but those that it states. -/
import Derived.Test.YtllchnancjgijaaGreatQa14
import Derived.Test.YtllchnancjgijaaGreatQa11
import Derived.Test.YtllchnancjgijaaGreatRows
import Derived.WalkKit
import Derived.ProofKit
import Derived.OpenShut
import Derived.ShutString
import Derived.Deep.Slices
set_option linter.unusedVariables false
set_option linter.unusedSimpArgs false
set_option maxRecDepth 100000
namespace Go.Proofs.YtllchnancjgijaaGreat
open Go.RowKit Go.Maps Go.ChangeMaps
theorem DnQ.stay {w w' : World} {D : Dn} {o : O} {tv gv lv : Value} (h : DnQ w D o tv gv lv) (hk : ∀ (g : Nat) (cs : Array Value) (t : TypeId) (z : Nat × Nat), (t = 117 ∨ t = 35 ∨ t = 3) → w.heap[g]? = some (.cells cs t z) → w'.heap[g]? = some (.cells cs t z)) : DnQ w' D o tv gv lv := by
 refine ⟨?_, own_keep h.g (fun b hb => ?_), ⟨h.l.1.keepK (fun g cs z hg => hk _ _ _ _ (Or.inr (Or.inr rfl)) hg), h.l.2⟩⟩
 ·obtain ⟨a, c, e, h1 | ⟨t, cur, e1, h2, h3, h4⟩⟩ := h.t
  ·exact ⟨a, c, e, Or.inl h1⟩
  ·exact ⟨a, c, e, Or.inr ⟨t, cur, e1, h2, hk _ _ _ _ (Or.inl rfl) h3, h4⟩⟩
 ·obtain ⟨cs, hc⟩ := own_kind h.g hb
  rw [hc]
  exact hk _ _ _ _ (Or.inr (Or.inl rfl)) hc
theorem DnQ.keep0 {w w' : World} {D : Dn} {o : O} {tv gv lv : Value} (h : DnQ w D o tv gv lv) (T : Touch [] w w') : DnQ w' D o tv gv lv := h.stay (fun g cs t z _ hg => T.keep hg (by simp))
theorem DnQ.kmap {w w' : World} {D : Dn} {o : O} {tv gv lv : Value} {b n : Nat} {f : Int → Option Value} (h : DnQ w D o tv gv lv) (T : Touch [b] w w') (hb : MapK KI w b n f) : DnQ w' D o tv gv lv := h.stay (fun g cs t z _ hg => T.keep hg (fun e => by
 simp only [List.mem_singleton] at e
 obtain ⟨es, cl, hk⟩ := hb.kind
 rw [e, hk] at hg
 cases hg))
theorem DnQ.ktick {w w' : World} {D : Dn} {o : O} {tv gv lv : Value} {s : Nat} {cs : Array Value} {z : Nat × Nat} (h : DnQ w D o tv gv lv) (T : Touch [s] w w') (hb : w.heap[s]? = some (.cells cs 100 z)) : DnQ w' D o tv gv lv := h.stay (fun g cs t z ht hg => T.keep hg (fun e => by
 simp only [List.mem_singleton] at e
 rw [e, hb] at hg
 simp only [Option.some.injEq, Obj.cells.injEq] at hg
 obtain ⟨-, e1, -⟩ := hg
 rw [← e1] at ht
 exact absurd ht (by decide)))
theorem st10 {w : World} {b : Nat} {t : TypeId} {z0 z1 z2 z3 z4 z5 z6 z7 z8 z9 : Value} (h : w.heap[b]? = some (.cells #[z0, z1, z2, z3, z4, z5, z6, z7, z8, z9] t (0, 0))) (v0 v1 v2 v3 v4 v5 v6 v7 v8 v9 : Value) :
  ((((((((((w.setCell ⟨b, 0, none⟩ v0).setCell ⟨b, 1, none⟩ v1).setCell ⟨b, 2, none⟩ v2).setCell ⟨b, 3, none⟩ v3).setCell ⟨b, 4, none⟩ v4).setCell ⟨b, 5, none⟩ v5).setCell ⟨b, 6, none⟩ v6).setCell ⟨b, 7, none⟩ v7).setCell ⟨b, 8, none⟩ v8).setCell ⟨b, 9, none⟩ v9).heap[b]? = some (.cells #[v0, v1, v2, v3, v4, v5, v6, v7, v8, v9] t (0, 0)) ∧ Touch [b] w ((((((((((w.setCell ⟨b, 0, none⟩ v0).setCell ⟨b, 1, none⟩ v1).setCell ⟨b, 2, none⟩ v2).setCell ⟨b, 3, none⟩ v3).setCell ⟨b, 4, none⟩ v4).setCell ⟨b, 5, none⟩ v5).setCell ⟨b, 6, none⟩ v6).setCell ⟨b, 7, none⟩ v7).setCell ⟨b, 8, none⟩ v8).setCell ⟨b, 9, none⟩ v9) := by
 refine ⟨by simp [World.setCell, Array.getElem?_modify, h], ?_⟩
 have hm : b ∈ [b] := by simp
 exact ((((((((((Touch.refl _ _).setCell (Or.inl hm) _).setCell (Or.inl hm) _).setCell (Or.inl hm) _).setCell (Or.inl hm) _).setCell (Or.inl hm) _).setCell (Or.inl hm) _).setCell (Or.inl hm) _).setCell (Or.inl hm) _).setCell (Or.inl hm) _).setCell (Or.inl hm) _
def obx (o : O) : Array Value := #[.int .i64 o.1, .int .i64 o.2.1, .int .i64 o.2.2.1, .int .i64 o.2.2.2]
structure Se2 (w : World) (s : Nat) (gv : Value) (r q g b : Nat) (o : O) : Prop where
 c0 : w.cell? ⟨s, 0, none⟩ = some gv
 cp : w.cell? ⟨r, q, none⟩ = some (.pointer (some ⟨g, 0, none⟩))
 o0 : w.cell? ⟨b, 0, none⟩ = some (.int .i64 o.1)
 o1 : w.cell? ⟨b, 1, none⟩ = some (.int .i64 o.2.1)
 o2 : w.cell? ⟨b, 2, none⟩ = some (.int .i64 o.2.2.1)
 o3 : w.cell? ⟨b, 3, none⟩ = some (.int .i64 o.2.2.2)
section
variable {w : World} {s : Nat} {F : List Nat} {l : List Gp} {now : Int} {G : List Int} {M : Nat} {X : Gp}
set_option maxHeartbeats 16000000 in
theorem send_ok {M' : Nat} (h : Hq w s F l now G M) (hM : M ≤ 2800000000000) (hMM : M ≤ M') (n : Int) {r : Int} (hr : W64 r) (o : O) (h0 : Me.tickE now n = 0) (h1 : 1 ≤ r) (hp : l[plR l.length r]? = some X) (hcs : ∀ N, Gk X N M → Ta.Ti X.T N.t → (Me.keysL X.en).Nodup → (X.L.map Prod.fst).Nodup → Gk (edX X n (owR l.length r) o) (edC X n (owR l.length r) o N) M') : Calls Tryz.prog 12 #[PT s, .int .i64 n, .int .i64 r, Me.ov o] w fun e w' => (edE X n (owR l.length r) o ≠ 0 ∧ e = .returned (.tuple #[.agg dnz, .int .i64 (edE X n (owR l.length r) o)]) ∧ HqE w w' s F l now G M') ∨ (edE X n (owR l.length r) o = 0 ∧ ∃ tv gv lv, e = .returned (.tuple #[.agg (dcs (sedD r l.length (plR l.length r) (edD X n (owR l.length r) o)) tv gv lv), .int .i64 0]) ∧ DnQ w' (sedD r l.length (plR l.length r) (edD X n (owR l.length r) o)) o tv gv lv ∧ HqE w w' s F (l.set (plR l.length r) (edX X n (owR l.length r) o)) n G M') := by
 obtain ⟨gv0, mw, mc, U, rfl, hl, hx1, hs⟩ := h
 obtain ⟨A, u, B, rfl, hA, rfl, hset⟩ := split_at hl hp
 have hgk := hx1.gk u (by simp)
 obtain ⟨hT, hnd, hne, -⟩ := (hx1.gs u (by simp)).ivs
 have hlen : (A ++ u :: B).length = l.length := by rw [← hl, List.length_map]
 obtain ⟨a, c, rfl⟩ := hx1.row
 rw [hlen] at hx1
 obtain ⟨N0, hN0⟩ : ∃ N0, N0 = l.length := ⟨_, rfl⟩
 have l1 := hs.l1
 have l2 := hs.l2
 rw [← hN0] at hx1 hp hA hset l1 l2 hcs ⊢
 obtain ⟨p, hpp⟩ : ∃ p, p = plR N0 r := ⟨_, rfl⟩
 obtain ⟨q, hqq⟩ : ∃ q, q = owR N0 r := ⟨_, rfl⟩
 have hpl : p < N0 := by rw [hpp]; exact plR_lt l1 r
 have hq64 : W64 q := by rw [hqq]; exact owR_w l1 h1 hr
 rw [← hpp] at hp hA hset ⊢
 rw [← hqq] at hcs ⊢
 obtain ⟨V, hV⟩ : ∃ V, V = (w.alloc (.cells (obx o) 39)).alloc (.cells dnz 53) := ⟨_, rfl⟩
 have B0 : Hb w (fpH s mw mc (A ++ u :: B)) V s (.slice a N0 c) mw mc (A ++ u :: B) now (wmap l) G M' [(w.heap.size + 1, dnz, 53), (w.heap.size, obx o, 39)] := by
  have := (((Hb.start hx1).mono hMM).new (obx o) 39 (by decide)).new dnz 53 (by decide)
  rwa [World.size_alloc, ← hV] at this
 have HTI := hid (scheck_ B0.cs.c0 B0.cs.c1 l1 n)
 rw [h0] at HTI
 have HB0 := hid B0
 have HFD : Hid (Calls Tryz.prog 48 #[PT s, .int .i64 r] V fun e w' => e = .returned (.tuple #[.int .i64 (p : Int), .int .i64 q]) ∧ Hb w (fpH s mw mc (A ++ u :: B)) w'.drew s (.slice a N0 c) mw mc (A ++ u :: B) now (wmap l) G M' [(w.heap.size + 1, dnz, 53), (w.heap.size, obx o, 39)]) := hid (by
  refine (find_ B0.cs.c0 l1 l2 h1 hr.hi).mono ?_
  rintro e w' ⟨e1, e2⟩
  refine ⟨?_, (B0.keep0 e2).drew⟩
  rw [e1, hpp, plR_int l1, hqq]
  rfl)
 have HPT : Hid (∀ (v : Gu) w1 f' now' Bs, v.g = u.g → Hb w (fpH s mw mc (A ++ u :: B)) w1 s (.slice a N0 c) mw mc (A ++ v :: B) now' f' G M' Bs → ∃ r off, a = some ⟨r, off, none⟩ ∧ w1.cell? ⟨r, off + p, none⟩ = some (PT u.g)) := hid (fun v w1 f' now' Bs ev q => by
  rw [← ev]
  exact q.r.x.ptr (by
   rw [List.getElem?_append_right (by rw [hA]; exact Nat.le_refl _), hA, Nat.sub_self]
   rfl))
 obtain ⟨rb, off, rfl, -⟩ := HPT.out u _ _ _ _ rfl B0
 have HSV : Hid (∀ (v : Gu) w1 Bs, v.g = u.g → Hb w (fpH s mw mc (A ++ u :: B)) w1 s (.slice (some ⟨rb, off, none⟩) N0 c) mw mc (A ++ v :: B) now (wmap l) G M' Bs → (w.heap.size, obx o, 39) ∈ Bs → Se2 w1 s (.slice (some ⟨rb, off, none⟩) N0 c) rb (off + p) u.g w.heap.size o) := hid (fun v w1 Bs ev q hb => by
  obtain ⟨r', off', e, h2⟩ := HPT.out v _ _ _ _ ev q
  cases e
  have hbb := q.at_ hb
  exact ⟨q.cs.c0, h2, cell_at hbb rfl, cell_at hbb rfl, cell_at hbb rfl, cell_at hbb rfl⟩)
 have HJN : Hid (∀ w1 Bs, Hb w (fpH s mw mc (A ++ u :: B)) w1 s (.slice (some ⟨rb, off, none⟩) N0 c) mw mc (A ++ u :: B) now (wmap l) G M' Bs → Calls Tryz.prog 29 #[PT u.g, .int .i64 n, .int .i64 q, Me.ov o] w1 fun e w2 => ∃ ta tm tc ga gm gc la lm lc, e = .returned (.tuple #[.agg (dcs (edD u.X n q o) (.slice ta tm tc) (.slice ga gm gc) (.slice la lm lc)), .int .i64 (edE u.X n q o)]) ∧ DnQ w2 (edD u.X n q o) o (.slice ta tm tc) (.slice ga gm gc) (.slice la lm lc) ∧ ∃ U', U'.map Gu.X = l.set p (edX u.X n q o) ∧ (∀ w3 Bs', Hb w (fpH s mw mc (A ++ u :: B)) w3 s (.slice (some ⟨rb, off, none⟩) N0 c) mw mc U' now (wmap l) G M' Bs' → (w.heap.size, obx o, 39) ∈ Bs' → Se2 w3 s (.slice (some ⟨rb, off, none⟩) N0 c) rb (off + p) u.g w.heap.size o) ∧ Hb w (fpH s mw mc (A ++ u :: B)) w2 s (.slice (some ⟨rb, off, none⟩) N0 c) mw mc U' now (wmap l) G M' Bs) := hid (fun w1 Bs q0 => by
  refine (q0.end_ hgk hM n hq64 o (hcs _ hgk hT hne hnd)).mono ?_
  rintro e w2 ⟨tv, gv, lv, e1, e2, u', g1, g2, g3, g4⟩
  obtain ⟨ta, tc, rfl⟩ := tv_len e2.t
  obtain ⟨ga, gc, rfl⟩ := own_form e2.g
  obtain ⟨-, la, lm, lc, rfl⟩ := e2.l
  exact ⟨ta, _, tc, ga, _, gc, la, lm, lc, e1, e2, A ++ u' :: B, by rw [hset, g2], fun w3 Bs' q' hb' => HSV.out u' _ _ g1 q' hb', g4⟩)
 have HSG := hid (fun w1 Bs => HSV.out u w1 Bs rfl)
 -- what comes of it in plain words
 obtain ⟨ys, ty1, ty2, ty3, ty4⟩ := ed_ys hgk.gi hT hnd n q o
 have HSI : Hid (edE u.X n q o = 0 → Si (l.set p (edX u.X n q o)) n G ∧ wmap (l.set p (edX u.X n q o)) = kdels (wmap l) (edD u.X n q o).told) := hid (fun e => by
  rw [ty1]
  exact out_si hs h0 hp (ed_ngc e) ty4 (fun y hy => (ty2 y hy).1))
 have HWT : Hid (∀ c ∈ (edD u.X n q o).told, W64 c) := hid (fun c hc => by
  rw [ty1] at hc
  obtain ⟨y, hy, rfl⟩ := List.mem_map.1 hc
  exact ((hx1.gs u (by simp)).ivs.2.2.2 y (ty2 y hy).1).1)
 have HTL : Hid ((edD u.X n q o).told.length ≤ 2800000000000) := hid (by
  rw [ty1, List.length_map]
  have h5 : ys.length ≤ u.X.L.length := by
   have := List.Nodup.length_le_of_subset (l₁ := ys.map Prod.fst) (l₂ := u.X.L.map Prod.fst) ty3 (fun c hc => by
    obtain ⟨y, hy, rfl⟩ := List.mem_map.1 hc
    exact List.mem_map.2 ⟨y, (ty2 y hy).1, rfl⟩)
   simpa using this
  have := hgk.nt
  omega)
 have HLF : Hid ((edD u.X n q o).left.length ≤ 1) := hid (by
  unfold edD
  split
  ·simp [Dn.z]
  ·split
   ·show (rlL _ _).length ≤ 1
    unfold rlL
    split
    ·simp
    ·split <;> simp
   ·simp)
 have HNO : Hid (edE u.X n q o ≠ 0 → l.set p (edX u.X n q o) = l) := hid (fun e => by
  have e1 : edX u.X n q o = u.X := by unfold edX; rw [if_pos e]
  rw [e1]
  obtain ⟨h, e⟩ := List.getElem?_eq_some_iff.1 hp
  rw [← e]
  exact List.set_getElem_self h)
 have HSI0 := hid hs
 have HM0 := hid hx1.wm
 have HP64 : Hid (p < N0 ∧ N0 ≤ 64) := hid ⟨hpl, l2⟩
 have HH1 : Hid (1 ≤ r) := hid h1
 obtain ⟨F0, hF0⟩ : ∃ F0, F0 = fpH s mw mc (A ++ u :: B) := ⟨_, rfl⟩
 have HFI : Hid (∀ U' w3 l' now', U'.map Gu.X = l' → Si l' now' G → Hr w (fpH s mw mc (A ++ u :: B)) w3 s (.slice (some ⟨rb, off, none⟩) N0 c) mw mc U' now' (wmap l') G M' → HqE w w3 s (fpH s mw mc (A ++ u :: B)) l' now' G M') := hid (fun U' w3 l' now' e hs q => Hr.fin q e hs)
 have HNS : Hid (∀ w1 U' now' f' Bs (v : Value), Hb w (fpH s mw mc (A ++ u :: B)) w1 s (.slice (some ⟨rb, off, none⟩) N0 c) mw mc U' now' f' G M' Bs → Rd w1 v (edD u.X n q o).left → Calls Tryz.prog 43 #[PT s, .int .i64 (p : Int), v] w1 fun e w' => ∃ a4 m4 c4, e = .returned (.slice a4 m4 c4) ∧ Rd w' (.slice a4 m4 c4) ((edD u.X n q o).left.map (numW N0 (p : Int))) ∧ Touch [] w1 w') := hid (fun w1 U' now' f' Bs v q hv => by
  refine (numbers_ q.cs.c0 _ hv (by have := HLF.out; omega)).mono ?_
  rintro e w' ⟨v', e1, ⟨e2, a4, m4, c4, rfl⟩, e3⟩
  exact ⟨a4, m4, c4, e1, e2, e3⟩)
 rw [← hF0] at HB0 HFD HJN HPT HSV HSG HFI HNS ⊢
 clear hF0 HPT HSV B0 hx1 hs hl hr h0 hp hA hset hgk hT hnd hlen hN0 l1 l2 hpl hqq hpp hM hMM hcs hne ty1 ty2 ty3 ty4 ys
 have hz1 : ¬ r < 1 := by omega
 clear h1 hq64
 unfold sedD at *
 generalize l.set p (edX u.X n q o) = L2 at *
 generalize edD u.X n q o = D at *
 generalize edE u.X n q o = E at *
 unfold obx dnz at hV
 unfold PT at *
 have hov : Me.ov o = .agg #[.int .i64 o.1, .int .i64 o.2.1, .int .i64 o.2.2.1, .int .i64 o.2.2.2] := rfl
 rw [hov] at HJN ⊢
 clear hov
 go_enter Tryz.func12, Tryz.ntmps12
 go_upto_region 1 with fail
 rw [← hV]
 clear hV
 go_upto_region 7 with (first
  | (go_at_call 47; refine HTI.out.mono ?_; rintro e w1 ⟨rfl, e1⟩; rw [e1]; clear e1 w1)
  | (go_at_call 48; refine HFD.out.mono ?_; rintro e V3 ⟨rfl, q3⟩; have Q3 := hid q3; clear q3))
 clear HTI HFD HB0
 have zp1 : (p : Int) < (N0 : Int) := by have := HP64.out; omega
 have zp2 : (N0 : Int) ≤ 64 := by have := HP64.out; omega
 have S0 := HSG.out _ _ Q3.out (by simp)
 have C0 : ∀ w', Se2 w' s (.slice (some ⟨rb, off, none⟩) N0 c) rb (off + p) u.g w.heap.size o → w'.cell? ⟨s, 0, none⟩ = some (.slice (some ⟨rb, off, none⟩) N0 c) := fun w' h => h.c0
 have CP : ∀ w', Se2 w' s (.slice (some ⟨rb, off, none⟩) N0 c) rb (off + p) u.g w.heap.size o → w'.cell? ⟨rb, off + p, none⟩ = some (.pointer (some ⟨u.g, 0, none⟩)) := fun w' h => h.cp
 have O0 : ∀ w', Se2 w' s (.slice (some ⟨rb, off, none⟩) N0 c) rb (off + p) u.g w.heap.size o → w'.cell? ⟨w.heap.size, 0, none⟩ = some (.int .i64 o.1) := fun w' h => h.o0
 have O1 : ∀ w', Se2 w' s (.slice (some ⟨rb, off, none⟩) N0 c) rb (off + p) u.g w.heap.size o → w'.cell? ⟨w.heap.size, 1, none⟩ = some (.int .i64 o.2.1) := fun w' h => h.o1
 have O2 : ∀ w', Se2 w' s (.slice (some ⟨rb, off, none⟩) N0 c) rb (off + p) u.g w.heap.size o → w'.cell? ⟨w.heap.size, 2, none⟩ = some (.int .i64 o.2.2.1) := fun w' h => h.o2
 have O3 : ∀ w', Se2 w' s (.slice (some ⟨rb, off, none⟩) N0 c) rb (off + p) u.g w.heap.size o → w'.cell? ⟨w.heap.size, 3, none⟩ = some (.int .i64 o.2.2.2) := fun w' h => h.o3
 unfold dcs at HJN
 go_cut [13, 14] from 33 to 46 (fun s13 s14 wx => ∃ b6 : Nat, s13 = .pointer (some ⟨b6, 0, none⟩) ∧ s14 = .int .i64 E ∧ Hid (∃ ta tm tc ga gm gc la lm lc U', DnQ wx D o (.slice ta tm tc) (.slice ga gm gc) (.slice la lm lc) ∧ U'.map Gu.X = L2 ∧ w.heap.size + 1 < b6 ∧ Hb w F0 wx s (.slice (some ⟨rb, off, none⟩) N0 c) mw mc U' now (wmap l) G M' [(b6, dcs D (.slice ta tm tc) (.slice ga gm gc) (.slice la lm lc), 53), (w.heap.size + 1, dnz, 53), (w.heap.size, obx o, 39)]))
 case first =>
  refine wp_region_L (S := fun w' => Se2 w' s (.slice (some ⟨rb, off, none⟩) N0 c) rb (off + p) u.g w.heap.size o) (st := 15) (by kernel_rfl) ?_
  refine wpL_take (i := 0) (v := (.pointer (some ⟨s, 0, none⟩))) (some 34) rfl rfl (by kernel_rfl) (by kernel_rfl) (by kernel_rfl) (by kernel_rfl) (by kernel_rfl) (by decide) (fun _ _ _ h => h) (Or.inl ⟨by rfl, fun w' hS => (by go_simp)⟩) S0 ?_
  try simp only [Go.Act.put, Zx, Zy, Zz]
  refine wpL_take (i := 1) (v := (.pointer (some ⟨s, 0, none⟩))) (some 35) rfl rfl (by kernel_rfl) (by kernel_rfl) (by kernel_rfl) (by kernel_rfl) (by kernel_rfl) (by decide) (fun _ _ _ h => h) (Or.inl ⟨by rfl, fun w' hS => (by go_simp)⟩) S0 ?_
  try simp only [Go.Act.put, Zx, Zy, Zz]
  refine wpL_take (i := 2) (v := (.pointer (some ⟨s, 0, none⟩))) (some 36) rfl rfl (by kernel_rfl) (by kernel_rfl) (by kernel_rfl) (by kernel_rfl) (by kernel_rfl) (by decide) (fun _ _ _ h => h) (Or.inl ⟨by rfl, fun w' hS => (by go_simp)⟩) S0 ?_
  try simp only [Go.Act.put, Zx, Zy, Zz]
  refine wpL_take (i := 3) (v := (.slice (some ⟨rb, off, none⟩) N0 c)) (some 37) rfl rfl (by kernel_rfl) (by kernel_rfl) (by kernel_rfl) (by kernel_rfl) (by kernel_rfl) (by decide) (fun _ _ _ h => h) (Or.inl ⟨by rfl, fun w' hS => (by have z0 := C0 _ hS; go_simp)⟩) S0 ?_
  try simp only [Go.Act.put, Zx, Zy, Zz]
  refine wpL_take (i := 4) (v := (.int .i64 (p : Int))) (some 38) rfl rfl (by kernel_rfl) (by kernel_rfl) (by kernel_rfl) (by kernel_rfl) (by kernel_rfl) (by decide) (fun _ _ _ h => h) (Or.inl ⟨by rfl, fun w' hS => (by go_simp)⟩) S0 ?_
  try simp only [Go.Act.put, Zx, Zy, Zz]
  refine wpL_take (i := 5) (v := (.pointer (some ⟨rb, off + p, none⟩))) (some 39) rfl rfl (by kernel_rfl) (by kernel_rfl) (by kernel_rfl) (by kernel_rfl) (by kernel_rfl) (by decide) (fun _ _ _ h => h) (Or.inl ⟨by rfl, fun w' hS => (by go_simp)⟩) S0 ?_
  try simp only [Go.Act.put, Zx, Zy, Zz]
  refine wpL_take (i := 6) (v := (.pointer (some ⟨u.g, 0, none⟩))) (some 40) rfl rfl (by kernel_rfl) (by kernel_rfl) (by kernel_rfl) (by kernel_rfl) (by kernel_rfl) (by decide) (fun _ _ _ h => h) (Or.inl ⟨by rfl, fun w' hS => (by have z0 := CP _ hS; go_simp)⟩) S0 ?_
  try simp only [Go.Act.put, Zx, Zy, Zz]
  refine wpL_take (i := 7) (v := (.int .i64 n)) (some 41) rfl rfl (by kernel_rfl) (by kernel_rfl) (by kernel_rfl) (by kernel_rfl) (by kernel_rfl) (by decide) (fun _ _ _ h => h) (Or.inl ⟨by rfl, fun w' hS => (by go_simp)⟩) S0 ?_
  try simp only [Go.Act.put, Zx, Zy, Zz]
  refine wpL_take (i := 8) (v := (.int .i64 q)) (some 42) rfl rfl (by kernel_rfl) (by kernel_rfl) (by kernel_rfl) (by kernel_rfl) (by kernel_rfl) (by decide) (fun _ _ _ h => h) (Or.inl ⟨by rfl, fun w' hS => (by go_simp)⟩) S0 ?_
  try simp only [Go.Act.put, Zx, Zy, Zz]
  refine wpL_take (i := 9) (v := (.agg #[.int .i64 o.1, .int .i64 o.2.1, .int .i64 o.2.2.1, .int .i64 o.2.2.2])) (some 43) rfl rfl (by kernel_rfl) (by kernel_rfl) (by kernel_rfl) (by kernel_rfl) (by kernel_rfl) (by decide) (fun _ _ _ h => h) (Or.inl ⟨by rfl, fun w' hS => (by have z0 := O0 _ hS; have z1 := O1 _ hS; have z2 := O2 _ hS; have z3 := O3 _ hS; go_simp)⟩) S0 ?_
  try simp only [Go.Act.put, Zx, Zy, Zz]
  refine wpL_ready (rs := [10, 14]) (by kernel_rfl) (by simp) ?_
  refine AllL.cons (o := { dst := some 44, op := Op.call { callee := Callee.value (Operand.func 29), args := #[Operand.tmp 40, Operand.tmp 41, Operand.tmp 42, Operand.tmp 43], argTypes := #[29, 2, 3, 39] }, type := 54, pos := _, after := #[{ on := 6, ground := Ground.data }, { on := 7, ground := Ground.data }, { on := 8, ground := Ground.data }, { on := 9, ground := Ground.data }], guard := none }) rfl (fun K' hK => ?_) ?_
  ·rw [if_pos (by rfl)]
   go_simp
   refine (HJN.out _ _ Q3.out).mono ?_
   rintro e w2 ⟨ta, tm, tc, ga, gm, gc, la, lm, lc, rfl, dq2, U2, hU2, hs2, q2⟩
   have HS2 := hid hs2
   have S2 := hs2 _ _ q2 (by simp)
   clear hs2
   have DQ := hid dq2
   have HU := hid hU2
   have Q2 := hid q2
   clear dq2 hU2 q2
   refine hK.out _ _ (fun _ => S2) ?_
   clear hK
   try simp only [Go.Act.put, Zx, Zy, Zz]
   refine wpL_take (i := 11) (v := (.tuple #[(.agg #[.int .i64 D.R.run, .int .u16 D.R.sp, .string D.R.nm, .int .i64 D.R.gen, .bool D.R.rf, .slice ta tm tc, .bool D.cur, .bool D.kept, .slice ga gm gc, .slice la lm lc]), (.int .i64 E)])) (some 33) rfl rfl (by kernel_rfl) (by kernel_rfl) (by kernel_rfl) (by kernel_rfl) (by kernel_rfl) (by decide) (fun _ _ _ h => h) (Or.inl ⟨by rfl, fun w' hS => (by go_simp)⟩) S2 ?_
   try simp only [Go.Act.put, Zx, Zy, Zz]
   refine wpL_take (i := 12) (v := (.agg #[.int .i64 D.R.run, .int .u16 D.R.sp, .string D.R.nm, .int .i64 D.R.gen, .bool D.R.rf, .slice ta tm tc, .bool D.cur, .bool D.kept, .slice ga gm gc, .slice la lm lc])) (some 45) rfl rfl (by kernel_rfl) (by kernel_rfl) (by kernel_rfl) (by kernel_rfl) (by kernel_rfl) (by decide) (fun _ _ _ h => h) (Or.inl ⟨by rfl, fun w' hS => (by go_simp)⟩) S2 ?_
   try simp only [Go.Act.put, Zx, Zy, Zz]
   refine wpL_takeY (i := 13) (v := (.int .i64 E)) (some 46) rfl rfl (by kernel_rfl) (by kernel_rfl) (by kernel_rfl) (by decide) (fun _ _ _ h => h) (Or.inl ⟨by rfl, fun w' hS => (by go_simp)⟩) (fun _ => S2) ?_
   try simp only [Go.Act.put, Zx, Zy, Zz]
   refine wpL_ready (rs := [14]) (by kernel_rfl) (by simp) (AllL.cons (o := { dst := some 13, op := Op.alloc 53, type := 0, pos := _, after := #[], guard := none }) rfl (fun K' hK => ?_) AllL.nil)
   rw [if_pos (by rfl)]
   go_simp
   refine hK.out _ _ (fun _ => (HS2.out _ _ (Q2.out.new dnz 53 (by decide)) (by simp))) ?_
   clear hK
   try simp only [Go.Act.put, Zx, Zy, Zz]
   refine wpL_ready (rs := [15]) (by kernel_rfl) (by simp) (AllL.cons (o := { dst := none, op := Op.store 53 (Operand.tmp 13) (Operand.tmp 45), type := 0, pos := _, after := #[{ on := 14, ground := Ground.data }, { on := 12, ground := Ground.data }, { on := 10, ground := Ground.chain }, { on := 0, ground := Ground.phase }, { on := 1, ground := Ground.phase }, { on := 2, ground := Ground.phase }, { on := 3, ground := Ground.phase }, { on := 4, ground := Ground.phase }, { on := 5, ground := Ground.phase }, { on := 6, ground := Ground.phase }, { on := 7, ground := Ground.phase }, { on := 8, ground := Ground.phase }, { on := 9, ground := Ground.phase }, { on := 10, ground := Ground.phase }, { on := 11, ground := Ground.phase }, { on := 12, ground := Ground.phase }, { on := 13, ground := Ground.textOnly Departure.lateStores }, { on := 14, ground := Ground.phase }], guard := none }) rfl (fun K' hK => ?_) AllL.nil)
   rw [if_pos (by rfl)]
   have hbj := heap_alloc_new w2 (.cells #[.int .i64 0, .int .u16 0, .string ⟨#[]⟩, .int .i64 0, .bool false, .slice none 0 0, .bool false, .bool false, .slice none 0 0, .slice none 0 0] 53)
   have d0 := cell_at (j := 0) hbj rfl
   have d1 := cell_at (j := 1) hbj rfl
   have d2 := cell_at (j := 2) hbj rfl
   have d3 := cell_at (j := 3) hbj rfl
   have d4 := cell_at (j := 4) hbj rfl
   have d5 := cell_at (j := 5) hbj rfl
   have d6 := cell_at (j := 6) hbj rfl
   have d7 := cell_at (j := 7) hbj rfl
   have d8 := cell_at (j := 8) hbj rfl
   have d9 := cell_at (j := 9) hbj rfl
   have df := froz_at hbj
   go_simp
   obtain ⟨W3, hW3⟩ : ∃ W3, W3 = w2.alloc (.cells #[.int .i64 D.R.run, .int .u16 D.R.sp, .string D.R.nm, .int .i64 D.R.gen, .bool D.R.rf, .slice ta tm tc, .bool D.cur, .bool D.kept, .slice ga gm gc, .slice la lm lc] 53) := ⟨_, rfl⟩
   have q3 := Q2.out.new #[.int .i64 D.R.run, .int .u16 D.R.sp, .string D.R.nm, .int .i64 D.R.gen, .bool D.R.rf, .slice ta tm tc, .bool D.cur, .bool D.kept, .slice ga gm gc, .slice la lm lc] 53 (by decide)
   have dq3 := DQ.out.keep0 ((Touch.refl [] w2).alloc (.cells #[.int .i64 D.R.run, .int .u16 D.R.sp, .string D.R.nm, .int .i64 D.R.gen, .bool D.R.rf, .slice ta tm tc, .bool D.cur, .bool D.kept, .slice ga gm gc, .slice la lm lc] 53))
   have hlt := block_lt (Q2.out.at_ (k := w.heap.size + 1) (cs := dnz) (t := 53) (by simp))
   rw [← hW3] at q3 dq3 ⊢
   clear hW3
   refine hK.out _ _ (fun h => absurd h (by decide)) ?_
   clear hK
   try simp only [Go.Act.put, Zx, Zy, Zz]
   refine wpL_takeY (i := 16) (v := (.int .i64 E)) (some 14) rfl rfl (by kernel_rfl) (by kernel_rfl) (by kernel_rfl) (by decide) (fun _ _ _ h => h) (Or.inl ⟨by rfl, fun w' hS => (by go_simp)⟩) (fun h => absurd h (by decide)) ?_
   try simp only [Go.Act.put, Zx, Zy, Zz]
   refine wpL_done (by kernel_rfl) ?_ _
   go_wp2
   go_meet
   case rel => exact ⟨_, rfl, rfl, hid ⟨ta, tm, tc, ga, gm, gc, la, lm, lc, U2, dq3, HU.out, (by simpa using hlt), q3⟩⟩
  refine AllL.cons (o := { dst := some 13, op := Op.alloc 53, type := 0, pos := _, after := #[], guard := none }) rfl (fun K' hK => ?_) ?_
  ·rw [if_pos (by rfl)]
   go_simp
   refine hK.out _ _ (fun _ => (HSG.out _ _ (Q3.out.new dnz 53 (by decide)) (by simp))) ?_
   clear hK
   try simp only [Go.Act.put, Zx, Zy, Zz]
   refine wpL_ready (rs := [10]) (by kernel_rfl) (by simp) (AllL.cons (o := { dst := some 44, op := Op.call { callee := Callee.value (Operand.func 29), args := #[Operand.tmp 40, Operand.tmp 41, Operand.tmp 42, Operand.tmp 43], argTypes := #[29, 2, 3, 39] }, type := 54, pos := _, after := #[{ on := 6, ground := Ground.data }, { on := 7, ground := Ground.data }, { on := 8, ground := Ground.data }, { on := 9, ground := Ground.data }], guard := none }) rfl (fun K' hK => ?_) AllL.nil)
   rw [if_pos (by rfl)]
   go_simp
   refine (HJN.out _ _ (Q3.out.new dnz 53 (by decide))).mono ?_
   rintro e w2 ⟨ta, tm, tc, ga, gm, gc, la, lm, lc, rfl, dq2, U2, hU2, hs2, q2⟩
   have HS2 := hid hs2
   have S2 := hs2 _ _ q2 (by simp)
   clear hs2
   have DQ := hid dq2
   have HU := hid hU2
   have Q2 := hid q2
   clear dq2 hU2 q2
   have hbj := Q2.out.at_ (k := V3.heap.size) (cs := dnz) (t := 53) (by simp)
   refine hK.out _ _ (fun _ => S2) ?_
   clear hK
   try simp only [Go.Act.put, Zx, Zy, Zz]
   refine wpL_take (i := 11) (v := (.tuple #[(.agg #[.int .i64 D.R.run, .int .u16 D.R.sp, .string D.R.nm, .int .i64 D.R.gen, .bool D.R.rf, .slice ta tm tc, .bool D.cur, .bool D.kept, .slice ga gm gc, .slice la lm lc]), (.int .i64 E)])) (some 33) rfl rfl (by kernel_rfl) (by kernel_rfl) (by kernel_rfl) (by kernel_rfl) (by kernel_rfl) (by decide) (fun _ _ _ h => h) (Or.inl ⟨by rfl, fun w' hS => (by go_simp)⟩) S2 ?_
   try simp only [Go.Act.put, Zx, Zy, Zz]
   refine wpL_take (i := 12) (v := (.agg #[.int .i64 D.R.run, .int .u16 D.R.sp, .string D.R.nm, .int .i64 D.R.gen, .bool D.R.rf, .slice ta tm tc, .bool D.cur, .bool D.kept, .slice ga gm gc, .slice la lm lc])) (some 45) rfl rfl (by kernel_rfl) (by kernel_rfl) (by kernel_rfl) (by kernel_rfl) (by kernel_rfl) (by decide) (fun _ _ _ h => h) (Or.inl ⟨by rfl, fun w' hS => (by go_simp)⟩) S2 ?_
   try simp only [Go.Act.put, Zx, Zy, Zz]
   refine wpL_takeY (i := 13) (v := (.int .i64 E)) (some 46) rfl rfl (by kernel_rfl) (by kernel_rfl) (by kernel_rfl) (by decide) (fun _ _ _ h => h) (Or.inl ⟨by rfl, fun w' hS => (by go_simp)⟩) (fun _ => S2) ?_
   try simp only [Go.Act.put, Zx, Zy, Zz]
   refine wpL_ready (rs := [15]) (by kernel_rfl) (by simp) (AllL.cons (o := { dst := none, op := Op.store 53 (Operand.tmp 13) (Operand.tmp 45), type := 0, pos := _, after := #[{ on := 14, ground := Ground.data }, { on := 12, ground := Ground.data }, { on := 10, ground := Ground.chain }, { on := 0, ground := Ground.phase }, { on := 1, ground := Ground.phase }, { on := 2, ground := Ground.phase }, { on := 3, ground := Ground.phase }, { on := 4, ground := Ground.phase }, { on := 5, ground := Ground.phase }, { on := 6, ground := Ground.phase }, { on := 7, ground := Ground.phase }, { on := 8, ground := Ground.phase }, { on := 9, ground := Ground.phase }, { on := 10, ground := Ground.phase }, { on := 11, ground := Ground.phase }, { on := 12, ground := Ground.phase }, { on := 13, ground := Ground.textOnly Departure.lateStores }, { on := 14, ground := Ground.phase }], guard := none }) rfl (fun K' hK => ?_) AllL.nil)
   rw [if_pos (by rfl)]
   unfold dnz at hbj
   have d0 := cell_at (j := 0) hbj rfl
   have d1 := cell_at (j := 1) hbj rfl
   have d2 := cell_at (j := 2) hbj rfl
   have d3 := cell_at (j := 3) hbj rfl
   have d4 := cell_at (j := 4) hbj rfl
   have d5 := cell_at (j := 5) hbj rfl
   have d6 := cell_at (j := 6) hbj rfl
   have d7 := cell_at (j := 7) hbj rfl
   have d8 := cell_at (j := 8) hbj rfl
   have d9 := cell_at (j := 9) hbj rfl
   have df := froz_at hbj
   go_simp
   obtain ⟨W3, hW3⟩ : ∃ W3, W3 = ((((((((((w2.setCell ⟨V3.heap.size, 0, none⟩ (.int .i64 D.R.run)).setCell ⟨V3.heap.size, 1, none⟩ (.int .u16 D.R.sp)).setCell ⟨V3.heap.size, 2, none⟩ (.string D.R.nm)).setCell ⟨V3.heap.size, 3, none⟩ (.int .i64 D.R.gen)).setCell ⟨V3.heap.size, 4, none⟩ (.bool D.R.rf)).setCell ⟨V3.heap.size, 5, none⟩ (.slice ta tm tc)).setCell ⟨V3.heap.size, 6, none⟩ (.bool D.cur)).setCell ⟨V3.heap.size, 7, none⟩ (.bool D.kept)).setCell ⟨V3.heap.size, 8, none⟩ (.slice ga gm gc)).setCell ⟨V3.heap.size, 9, none⟩ (.slice la lm lc)) := ⟨_, rfl⟩
   obtain ⟨h6, t6⟩ := st10 hbj (.int .i64 D.R.run) (.int .u16 D.R.sp) (.string D.R.nm) (.int .i64 D.R.gen) (.bool D.R.rf) (.slice ta tm tc) (.bool D.cur) (.bool D.kept) (.slice ga gm gc) (.slice la lm lc)
   rw [← hW3] at h6 t6 ⊢
   have dq3 := DQ.out.put hbj t6
   have hlt := block_lt (Q3.out.at_ (k := w.heap.size + 1) (cs := dnz) (t := 53) (by simp))
   have q3 := Q2.out.set (by intro y hy; simp at hy; rcases hy with rfl | rfl <;> simp <;> (try simp at hlt) <;> omega) t6 h6
   clear hW3 h6 t6
   refine hK.out _ _ (fun h => absurd h (by decide)) ?_
   clear hK
   try simp only [Go.Act.put, Zx, Zy, Zz]
   refine wpL_takeY (i := 16) (v := (.int .i64 E)) (some 14) rfl rfl (by kernel_rfl) (by kernel_rfl) (by kernel_rfl) (by decide) (fun _ _ _ h => h) (Or.inl ⟨by rfl, fun w' hS => (by go_simp)⟩) (fun h => absurd h (by decide)) ?_
   try simp only [Go.Act.put, Zx, Zy, Zz]
   refine wpL_done (by kernel_rfl) ?_ _
   go_wp2
   go_meet
   case rel => exact ⟨_, rfl, rfl, hid ⟨ta, tm, tc, ga, gm, gc, la, lm, lc, U2, dq3, HU.out, (by simpa using hlt), q3⟩⟩
  exact AllL.nil
 case rest =>
  clear S0 C0 CP O0 O1 O2 O3 HJN HSG Q3
  obtain ⟨b6, rfl, rfl, HC⟩ := hcut
  obtain ⟨Wc, rfl⟩ : ∃ Wc, Wc = wc := ⟨_, rfl⟩
  obtain ⟨ta, tm, tc, ga, gm, gc, la, lm, lc, U2, dq, hU2, hb6, q2⟩ := HC.out
  clear HC
  have Q2 := hid q2
  have HU2 := hid hU2
  have H6 := hid hb6
  have DQ := hid dq
  clear q2 hU2 hb6 dq
  by_cases hE : E ≠ 0
  ·have hE' : (E != 0) = true := by simp [hE]
   have hbj := Q2.out.at_ (k := w.heap.size + 1) (cs := dnz) (t := 53) (by simp)
   have HFE : Hid (∀ w3, Touch [w.heap.size + 1] Wc w3 → HqE w w3 s F0 l now G M') := hid (fun w3 T => HFI.out U2 w3 l now (by rw [HU2.out, HNO.out hE]) HSI0.out (Q2.out.out (k := w.heap.size + 1) (cs := dnz) (t := 53) (by simp) T))
   have HEE := hid hE
   clear hE
   unfold dnz at hbj
   have d0 := cell_at (j := 0) hbj rfl
   have d1 := cell_at (j := 1) hbj rfl
   have d2 := cell_at (j := 2) hbj rfl
   have d3 := cell_at (j := 3) hbj rfl
   have d4 := cell_at (j := 4) hbj rfl
   have d5 := cell_at (j := 5) hbj rfl
   have d6 := cell_at (j := 6) hbj rfl
   have d7 := cell_at (j := 7) hbj rfl
   have d8 := cell_at (j := 8) hbj rfl
   have d9 := cell_at (j := 9) hbj rfl
   have df := froz_at hbj
   clear hbj
   go_wp2
   exact bodyPost_ret (v := .tuple #[.agg #[.int .i64 0, .int .u16 0, .string ⟨#[]⟩, .int .i64 0, .bool false, .slice none 0 0, .bool false, .bool false, .slice none 0 0, .slice none 0 0], .int .i64 E]) (by simp [results, Tryz.results12, go_sem, d0, d1, d2, d3, d4, d5, d6, d7, d8, d9]) rfl (Or.inl ⟨HEE.out, rfl, HFE.out _ (((((((((((Touch.refl _ _).setCell (Or.inl (by simp)) _).setCell (Or.inl (by simp)) _).setCell (Or.inl (by simp)) _).setCell (Or.inl (by simp)) _).setCell (Or.inl (by simp)) _).setCell (Or.inl (by simp)) _).setCell (Or.inl (by simp)) _).setCell (Or.inl (by simp)) _).setCell (Or.inl (by simp)) _).setCell (Or.inl (by simp)) _)⟩)
  ·have hE0 : E = 0 := by simpa using hE
   obtain ⟨si, wme⟩ := HSI.out hE0
   subst hE0
   have c1 := Q2.out.cs.c1
   have f1 := Q2.out.cs.f1
   have HSI2 := hid si
   have HWE := hid wme
   clear hE si wme HSI
   go_upto_region 11 with fail
   obtain ⟨W4, hW4⟩ : ∃ W4, W4 = Wc.setCell ⟨s, 1, none⟩ (.int .i64 n) := ⟨_, rfl⟩
   have q4 := Q2.out.tick n
   have t4 : Touch [s] Wc W4 := by rw [hW4]; exact (Touch.refl _ _).setCell (Or.inl (by simp)) _
   have dq4 := DQ.out.ktick t4 Q2.out.r.x.bl
   rw [← hW4] at q4 ⊢
   clear hW4 t4 c1 f1
   obtain ⟨ta', tc', etv⟩ := tv_len dq4.t
   simp only [Value.slice.injEq] at etv
   obtain ⟨-, etm, -⟩ := etv
   subst etm
   have hbj := q4.at_ (k := b6) (cs := dcs D (.slice ta D.told.length tc) (.slice ga gm gc) (.slice la lm lc)) (t := 53) (by simp)
   have x5 : W4.cell? ⟨b6, 5, none⟩ = some (.slice ta D.told.length tc) := cell_at hbj rfl
   have HMX := hid (q4.r.x.wm)
   obtain ⟨m, hm⟩ : ∃ m, m = D.told.length := ⟨_, rfl⟩
   have HM := hid hm
   rw [← hm] at q4 dq4 x5
   have H0 : Hid (Hb w F0 W4 s (.slice (some ⟨rb, off, none⟩) N0 c) mw mc U2 n (kdels (wmap l) (D.told.take 0)) G M' [(b6, dcs D (.slice ta m tc) (.slice ga gm gc) (.slice la lm lc), 53), (w.heap.size + 1, dnz, 53), (w.heap.size, obx o, 39)] ∧ DnQ W4 D o (.slice ta m tc) (.slice ga gm gc) (.slice la lm lc)) := hid ⟨q4, dq4⟩
   clear q4 dq4 hm hbj Q2 DQ
   go_wp2
   clear x5
   go_loopw [58] (fun s58 wr => ∃ i : Nat, s58 = .int .i64 (i : Int) ∧ i ≤ m ∧ Hid (Hb w F0 wr s (.slice (some ⟨rb, off, none⟩) N0 c) mw mc U2 n (kdels (wmap l) (D.told.take i)) G M' [(b6, dcs D (.slice ta m tc) (.slice ga gm gc) (.slice la lm lc), 53), (w.heap.size + 1, dnz, 53), (w.heap.size, obx o, 39)] ∧ DnQ wr D o (.slice ta m tc) (.slice ga gm gc) (.slice la lm lc))) (fun i _ => m - (intOf i).toNat)
   case atStart => exact ⟨0, rfl, Nat.zero_le _, H0⟩
   case round =>
    clear H0
    obtain ⟨i, rfl, hi, HR⟩ := hrel
    by_cases hlt : i < m
    ·have zi : (i : Int) < (m : Int) := by omega
     have zL : (m : Int) < 9223372036854775807 := by have := HTL.out; have := HM.out; omega
     have hil : i < D.told.length := by have := HM.out; omega
     obtain ⟨tb, rfl, e0, e1, e2, e3, e4⟩ := tv5 HR.out.2.t hil
     obtain ⟨x, hx⟩ : ∃ x, x = D.told[i] := ⟨_, rfl⟩
     rw [← hx] at e0
     have hx64 : W64 x := by rw [hx]; exact HWT.out _ (List.getElem_mem _)
     have HT1 : Hid (D.told.take (i + 1) = D.told.take i ++ [x]) := hid (by rw [hx, List.take_succ_eq_append_getElem hil])
     obtain ⟨V1, hV1⟩ : ∃ V1, V1 = wr.alloc (.cells #[.int .i64 x, .int .i64 o.1, .int .i64 o.2.1, .int .i64 o.2.2.1, .int .i64 o.2.2.2] 117) := ⟨_, rfl⟩
     have q1 := (HR.out.1.new #[.int .i64 x, .int .i64 o.1, .int .i64 o.2.1, .int .i64 o.2.2.1, .int .i64 o.2.2.2] 117 (by decide))
     have dq1 := HR.out.2.keep0 ((Touch.refl [] wr).alloc (.cells #[.int .i64 x, .int .i64 o.1, .int .i64 o.2.1, .int .i64 o.2.2.1, .int .i64 o.2.2.2] 117))
     rw [← hV1] at q1 dq1
     have q1d := q1.drew
     have dq1d := dq1.keep0 (Touch.refl [] V1).drew
     obtain ⟨mm, hmm, hmk⟩ := q1d.r.x.wm
     obtain ⟨ob, hdel, hM⟩ := hmk.del (t := 97) Tryz.underlying97 (k := x) hx64 0
     have q2 := q1d.wput (by split <;> omega) hM
     have dq2 := dq1d.kmap (q1d.r.wput (by split <;> omega) hM).2.1 hmk
     rw [← kdels_snoc, ← HT1.out] at q2
     have HX := hid (And.intro (Hb.sub q2 (Bs' := [(b6, dcs D (.slice (some ⟨tb, 0, none⟩) m tc) (.slice ga gm gc) (.slice la lm lc), 53), (w.heap.size + 1, dnz, 53), (w.heap.size, obx o, 39)]) (fun y hy => List.mem_cons_of_mem _ hy)) dq2)
     have S9 : V1.drew.cell? ⟨s, 2, none⟩ = some (.map (some mw)) ∧ V1.drew.cell? ⟨wr.heap.size, 0, none⟩ = some (.int .i64 x) := ⟨q1d.cs.c2, cell_at (q1d.at_ (k := wr.heap.size) (cs := #[.int .i64 x, .int .i64 o.1, .int .i64 o.2.1, .int .i64 o.2.2.1, .int .i64 o.2.2.2]) (t := 117) (by simp)) rfl⟩
     clear hx q1 dq1 q1d dq1d hM q2 dq2 hmk hmm hx64 HR
     go_upto_region 14 with fail
     rw [← hV1]
     clear hV1 e0 e1 e2 e3 e4
     refine wp_region_L (S := fun w' => w'.cell? ⟨s, 2, none⟩ = some (.map (some mw)) ∧ w'.cell? ⟨wr.heap.size, 0, none⟩ = some (.int .i64 x)) (st := 6) (by kernel_rfl) ?_
     refine wpL_takeY (i := 0) (v := (.pointer (some ⟨s, 0, none⟩))) (some 62) rfl rfl (by kernel_rfl) (by kernel_rfl) (by kernel_rfl) (by decide) (fun _ _ _ h => h) (Or.inl ⟨by rfl, fun w' hS => (by go_simp)⟩) (fun _ => S9) ?_
     try simp only [Go.Act.put, Zx, Zy, Zz]
     refine wpL_takeY (i := 1) (v := (.pointer (some ⟨s, 0, none⟩))) (some 63) rfl rfl (by kernel_rfl) (by kernel_rfl) (by kernel_rfl) (by decide) (fun _ _ _ h => h) (Or.inl ⟨by rfl, fun w' hS => (by go_simp)⟩) (fun _ => S9) ?_
     try simp only [Go.Act.put, Zx, Zy, Zz]
     refine wpL_takeY (i := 2) (v := (.pointer (some ⟨s, 2, none⟩))) (some 64) rfl rfl (by kernel_rfl) (by kernel_rfl) (by kernel_rfl) (by decide) (fun _ _ _ h => h) (Or.inl ⟨by rfl, fun w' hS => (by go_simp)⟩) (fun _ => S9) ?_
     try simp only [Go.Act.put, Zx, Zy, Zz]
     refine wpL_take (i := 3) (v := (.map (some mw))) (some 65) rfl rfl (by kernel_rfl) (by kernel_rfl) (by kernel_rfl) (by kernel_rfl) (by kernel_rfl) (by decide) (fun _ _ _ h => h) (Or.inl ⟨by rfl, fun w' hS => (by have z0 := hS.1; go_simp)⟩) S9 ?_
     try simp only [Go.Act.put, Zx, Zy, Zz]
     refine wpL_takeY (i := 4) (v := (.pointer (some ⟨wr.heap.size, 0, none⟩))) (some 66) rfl rfl (by kernel_rfl) (by kernel_rfl) (by kernel_rfl) (by decide) (fun _ _ _ h => h) (Or.inl ⟨by rfl, fun w' hS => (by go_simp)⟩) (fun _ => S9) ?_
     try simp only [Go.Act.put, Zx, Zy, Zz]
     refine wpL_take (i := 5) (v := (.int .i64 x)) (some 67) rfl rfl (by kernel_rfl) (by kernel_rfl) (by kernel_rfl) (by kernel_rfl) (by kernel_rfl) (by decide) (fun _ _ _ h => h) (Or.inl ⟨by rfl, fun w' hS => (by have z0 := hS.2; go_simp)⟩) S9 ?_
     try simp only [Go.Act.put, Zx, Zy, Zz]
     refine wpL_ready (rs := [6]) (by kernel_rfl) (by simp) (AllL.cons (o := { dst := none, op := Op.call { callee := Callee.builtin Builtin.delete, args := #[Operand.tmp 65, Operand.tmp 67], argTypes := #[97, 3] }, type := 0, pos := _, after := #[{ on := 3, ground := Ground.data }, { on := 5, ground := Ground.data }], guard := none }) rfl (fun K' hK => ?_) AllL.nil)
     rw [if_pos (by rfl)]
     have hdel2 : Sem.run Tryz.prog (Builtin.delete_ #[97, 3] 0 #[.map (some mw), .int .i64 x]) V1.drew = .ok (.tuple #[]) (setBlock V1.drew mw ob) := hdel
     go_simp
     refine hK.out _ _ (fun h => absurd h (by decide)) ?_
     clear hK
     try simp only [Go.Act.put, Zx, Zy, Zz]
     refine wpL_done (by kernel_rfl) ?_ _
     go_wp2
     go_roundw
     case rel => exact ⟨i + 1, by go_num, by omega, HX⟩
     case measure => simp [intOf]; omega
    ·have zi : ¬ (i : Int) < (m : Int) := by omega
     have hi' : i = D.told.length := by have := HM.out; omega
     have HRR : Hid (Hb w F0 wr s (.slice (some ⟨rb, off, none⟩) N0 c) mw mc U2 n (kdels (wmap l) D.told) G M' [(b6, dcs D (.slice ta m tc) (.slice ga gm gc) (.slice la lm lc), 53), (w.heap.size + 1, dnz, 53), (w.heap.size, obx o, 39)] ∧ DnQ wr D o (.slice ta m tc) (.slice ga gm gc) (.slice la lm lc)) := hid (by
      have := HR.out
      rw [List.take_of_length_le (by omega)] at this
      exact this)
     clear HR hi hlt hi'
     have hbj := HRR.out.1.at_ (k := b6) (cs := dcs D (.slice ta m tc) (.slice ga gm gc) (.slice la lm lc)) (t := 53) (by simp)
     have y9 : wr.cell? ⟨b6, 9, none⟩ = some (.slice la lm lc) := cell_at hbj rfl
     have HNC := hid (HNS.out wr U2 n _ _ _ HRR.out.1 HRR.out.2.l.1)
     clear hbj
     go_upto_region 17 with (go_at_call 43; refine HNC.out.mono ?_; rintro e w5 ⟨a5, m5, c5, rfl, rd5, t5⟩; have q5 := HRR.out.1.keep0 t5; have dq5 := HRR.out.2.keep0 t5; have hb5 := q5.at_ (k := b6) (cs := dcs D (.slice ta m tc) (.slice ga gm gc) (.slice la lm lc)) (t := 53) (by simp); have g0 : w5.cell? ⟨b6, 0, none⟩ = some (.int .i64 D.R.run) := cell_at hb5 rfl; have g9 : w5.cell? ⟨b6, 9, none⟩ = some (.slice la lm lc) := cell_at hb5 rfl; have gf := froz_at hb5; have HD5 := hid (And.intro q5 (And.intro dq5 rd5)); have HB5 := hid hb5; clear rd5 t5 q5 dq5 hb5 y9)
     obtain ⟨W6, hW6⟩ : ∃ W6, W6 = (w5.setCell ⟨b6, 0, none⟩ (.int .i64 r)).setCell ⟨b6, 9, none⟩ (.slice a5 m5 c5) := ⟨_, rfl⟩
     have t6 : Touch [b6] w5 W6 := by rw [hW6]; exact ((Touch.refl _ _).setCell (Or.inl (by simp)) _).setCell (Or.inl (by simp)) _
     have h6 : W6.heap[b6]? = some (.cells #[.int .i64 r, .int .u16 D.R.sp, .string D.R.nm, .int .i64 D.R.gen, .bool D.R.rf, .slice ta m tc, .bool D.cur, .bool D.kept, .slice ga gm gc, .slice a5 m5 c5] 53 (0, 0)) := by
      rw [hW6]
      have := bset (bset HB5.out (i := 0) (.int .i64 r)) (i := 9) (.slice a5 m5 c5)
      simpa [dcs] using this
     rw [← hW6] at ⊢
     have q6 := HD5.out.1.set (by intro y hy; simp at hy; have := H6.out; rcases hy with rfl | rfl <;> simp <;> omega) t6 h6
     have dq6 := HD5.out.2.1.put HB5.out t6
     have rd6 := HD5.out.2.2.kbox t6 HB5.out (by decide)
     have hb7 := q6.at_ (k := w.heap.size + 1) (cs := dnz) (t := 53) (by simp)
     have HB7 := hid hb7
     have hbj := hb7
     unfold dnz at hbj
     have e0 := cell_at (j := 0) h6 rfl
     have e1 := cell_at (j := 1) h6 rfl
     have e2 := cell_at (j := 2) h6 rfl
     have e3 := cell_at (j := 3) h6 rfl
     have e4 := cell_at (j := 4) h6 rfl
     have e5 := cell_at (j := 5) h6 rfl
     have e6 := cell_at (j := 6) h6 rfl
     have e7 := cell_at (j := 7) h6 rfl
     have e8 := cell_at (j := 8) h6 rfl
     have e9 := cell_at (j := 9) h6 rfl
     have d0 := cell_at (j := 0) hbj rfl
     have d1 := cell_at (j := 1) hbj rfl
     have d2 := cell_at (j := 2) hbj rfl
     have d3 := cell_at (j := 3) hbj rfl
     have d4 := cell_at (j := 4) hbj rfl
     have d5 := cell_at (j := 5) hbj rfl
     have d6 := cell_at (j := 6) hbj rfl
     have d7 := cell_at (j := 7) hbj rfl
     have d8 := cell_at (j := 8) hbj rfl
     have d9 := cell_at (j := 9) hbj rfl
     have df := froz_at hbj
     clear hbj
     have Q6 := hid q6
     have DQ6 := hid dq6
     have RD6 := hid rd6
     clear hW6 t6 h6 q6 dq6 rd6 hb7 g0 g9 gf HD5 HB5 HRR HNC
     go_wp2
     exact bodyPost_ret (v := .tuple #[.agg #[.int .i64 r, .int .u16 D.R.sp, .string D.R.nm, .int .i64 D.R.gen, .bool D.R.rf, .slice ta m tc, .bool D.cur, .bool D.kept, .slice ga gm gc, .slice a5 m5 c5], .int .i64 0]) (by simp [results, Tryz.results12, go_sem, d0, d1, d2, d3, d4, d5, d6, d7, d8, d9]) rfl (⟨.slice ta m tc, .slice ga gm gc, .slice a5 m5 c5, rfl, ⟨(DQ6.out.put HB7.out (((((((((((Touch.refl _ _).setCell (Or.inl (by simp)) _).setCell (Or.inl (by simp)) _).setCell (Or.inl (by simp)) _).setCell (Or.inl (by simp)) _).setCell (Or.inl (by simp)) _).setCell (Or.inl (by simp)) _).setCell (Or.inl (by simp)) _).setCell (Or.inl (by simp)) _).setCell (Or.inl (by simp)) _).setCell (Or.inl (by simp)) _)).t, (DQ6.out.put HB7.out (((((((((((Touch.refl _ _).setCell (Or.inl (by simp)) _).setCell (Or.inl (by simp)) _).setCell (Or.inl (by simp)) _).setCell (Or.inl (by simp)) _).setCell (Or.inl (by simp)) _).setCell (Or.inl (by simp)) _).setCell (Or.inl (by simp)) _).setCell (Or.inl (by simp)) _).setCell (Or.inl (by simp)) _).setCell (Or.inl (by simp)) _)).g, ⟨RD6.out.kbox (((((((((((Touch.refl _ _).setCell (Or.inl (by simp)) _).setCell (Or.inl (by simp)) _).setCell (Or.inl (by simp)) _).setCell (Or.inl (by simp)) _).setCell (Or.inl (by simp)) _).setCell (Or.inl (by simp)) _).setCell (Or.inl (by simp)) _).setCell (Or.inl (by simp)) _).setCell (Or.inl (by simp)) _).setCell (Or.inl (by simp)) _) HB7.out (by decide), _, _, _, rfl⟩⟩, HFI.out U2 _ L2 n HU2.out HSI2.out (by rw [HWE.out]; exact Q6.out.out (k := w.heap.size + 1) (cs := dnz) (t := 53) (by simp) (((((((((((Touch.refl _ _).setCell (Or.inl (by simp)) _).setCell (Or.inl (by simp)) _).setCell (Or.inl (by simp)) _).setCell (Or.inl (by simp)) _).setCell (Or.inl (by simp)) _).setCell (Or.inl (by simp)) _).setCell (Or.inl (by simp)) _).setCell (Or.inl (by simp)) _).setCell (Or.inl (by simp)) _).setCell (Or.inl (by simp)) _))⟩)
end
end Go.Proofs.YtllchnancjgijaaGreat
/- The law's awake: a key of two shards leads; no conditions. -/
namespace Go.Proofs.YtllchnancjgijaaGreat
open Go.RowKit Go.Maps Go.ChangeMaps
theorem okcA : Me.okC cA = true := by decide
theorem w7A : W7 cA := ⟨by decide, by decide, by decide, by decide⟩
theorem sjA (p : Nat) : sjE (List.replicate 2 (G0 cA 0 [])) 0 [] 0 kA 1 0 = 0 := by kernel_rfl
theorem numA {p : Nat} (hp : p < 2) : (numW 2 (p : Int) 1 == 1) = decide (p = 0) ∧ (numW 2 (p : Int) 1 == 2) = decide (p = 1) := by
 match p, hp with
 | 0, _ => exact ⟨by kernel_rfl, by kernel_rfl⟩
 | 1, _ => exact ⟨by kernel_rfl, by kernel_rfl⟩
set_option maxHeartbeats 4000000 in
theorem sawake_ (w : World) : Calls Tryz.prog 8 #[] w fun e w' => e = .returned (.bool true) ∧ Touch [] w w' := by
 have HN : Hid (Calls Tryz.prog 6 #[.int .i64 2, .agg #[.int .i64 5, .int .i64 0, .int .i64 0, .int .i64 2, .int .i64 2, .int .i64 1, .int .i64 0]] w fun e w' => ∃ s F, e = .returned (.tuple #[.pointer (some ⟨s, 0, none⟩), .int .i64 0]) ∧ Hq w' s F (List.replicate 2 (G0 cA 0 [])) 0 [] 0 ∧ Touch [] w w' ∧ ∀ k, k ∈ F → w.heap.size ≤ k) := hid (snew_ 2 cA w (by omega) (by omega) okcA w7A)
 obtain ⟨p, hp⟩ : ∃ p, p = Ky.plc kA 2 := ⟨_, rfl⟩
 have hp2 : p < 2 := by rw [hp]; exact Ky.plc_lt kA (by omega)
 have HJ : Hid (∀ w1 s F, Hq w1 s F (List.replicate 2 (G0 cA 0 [])) 0 [] 0 → Touch [] w w1 → (∀ k, k ∈ F → w.heap.size ≤ k) → Calls Tryz.prog 10 #[.pointer (some ⟨s, 0, none⟩), .int .i64 0, .agg #[.int .u16 0, .string ⟨#[97]⟩], .int .i64 1, .int .i64 0] w1 fun e w2 => ∃ bg o1 o2 o3 o4 a m c, e = .returned (.tuple #[.agg #[.int .i64 5, .int .i64 (numW 2 (p : Int) 1), .bool bg, .int .i64 o1, .int .i64 o2, .int .i64 o3, .int .i64 o4, .slice a m c], .int .i64 0]) ∧ Touch [] w w2 ∧ ∃ a c, w2.cell? ⟨s, 0, none⟩ = some (.slice a 2 c)) := hid (fun w1 s F h T hf => by
  have hl : (List.replicate 2 (G0 cA 0 [])).length = 2 := rfl
  have hX : (List.replicate 2 (G0 cA 0 []))[Ky.plc kA (List.replicate 2 (G0 cA 0 [])).length]? = some (G0 cA 0 []) := by
   rw [hl, ← hp]
   match p, hp2 with
   | 0, _ => rfl
   | 1, _ => rfl
  refine (sjoin_ (M' := 2) h (by omega) (by omega) 0 kA okA (by rfl) (by rfl) (sjA 0) hX (fun N hg hT => hg.join hT _ _ _ _)).mono ?_
  rintro e w2 ⟨v, e1, ⟨e2, a, m, c, rfl⟩, F', q1, q2, q3⟩
  obtain ⟨h5, h1⟩ := awA2
  rw [hl, ← hp] at e1
  unfold jv jcs sjJ at e1
  rw [h5, h1] at e1
  refine ⟨_, _, _, _, _, a, m, c, e1, T.trans q2 (fun i hi => Or.inr (hf i hi)), ?_⟩
  ·obtain ⟨gv, mw, mc, U, rfl, hU, hx, hs⟩ := q1
   obtain ⟨a', c', rfl⟩ := hx.row
   have hUl : U.length = 2 := by rw [← List.length_map (f := Gu.X), hU, List.length_set]; rfl
   have := hx.cs.c0
   rw [hUl] at this
   exact ⟨a', c', this⟩)
 have HL : Hid (∀ w2 s a c, w2.cell? ⟨s, 0, none⟩ = some (.slice a 2 c) → Calls Tryz.prog 23 #[.pointer (some ⟨s, 0, none⟩)] w2 fun e w' => e = .returned (.int .i64 2) ∧ w' = w2) := hid (fun w2 s a c h => slen_ h)
 obtain ⟨n1, n2⟩ := numA hp2
 clear hp
 generalize numW 2 (p : Int) 1 = q at *
 have hc : p = 0 ∨ p = 1 := by omega
 go_enter Tryz.func8, Tryz.ntmps8
 go_upto_region 5 with (first
  | (go_at_call 6; refine HN.out.mono ?_; rintro e w1 ⟨s, F, rfl, h1⟩; have H1 := hid h1; clear h1)
  | (go_at_call 10; refine (HJ.out _ _ _ H1.out.1 H1.out.2.1 H1.out.2.2).mono ?_; rintro e w2 ⟨bg, o1, o2, o3, o4, a, m, c, rfl, t2, a', c', h2⟩; have T2 := hid t2; clear t2))
 obtain ⟨W3, hW3⟩ : ∃ W3, W3 = w2.alloc (.cells #[.int .i64 5, .int .i64 q, .bool bg, .int .i64 o1, .int .i64 o2, .int .i64 o3, .int .i64 o4, .slice a m c] 45) := ⟨_, rfl⟩
 have hb := heap_alloc_new w2 (.cells #[.int .i64 5, .int .i64 q, .bool bg, .int .i64 o1, .int .i64 o2, .int .i64 o3, .int .i64 o4, .slice a m c] 45)
 have t3 : Touch [] w2 W3 := by rw [hW3]; exact (Touch.refl _ _).alloc _
 rw [← hW3] at hb ⊢
 have LN := hid (HL.out _ _ _ _ (cell_touch h2 t3))
 have T3 := hid (T2.out.trans' t3)
 have j0 := cell_at (j := 0) hb rfl
 have j1 := cell_at (j := 1) hb rfl
 clear hW3 hb t3 h2 H1 HN HJ HL hp2
 rcases hc with rfl | rfl
 ·rw [decide_eq_true rfl] at n1
  clear n2
  go_wp2_with (go_at_call 23; refine LN.out.mono ?_; rintro e w4 ⟨rfl, e4⟩; rw [e4]; clear e4 w4)
  go_ret
  exact ⟨rfl, T3.out⟩
 ·rw [decide_eq_false (by decide)] at n1
  rw [decide_eq_true rfl] at n2
  go_wp2_with (go_at_call 23; refine LN.out.mono ?_; rintro e w4 ⟨rfl, e4⟩; rw [e4]; clear e4 w4)
  go_ret
  exact ⟨rfl, T3.out⟩
end Go.Proofs.YtllchnancjgijaaGreat
/- An act, a slice of acts and a configuration as arguments, opened; no conditions. -/
namespace Go.Proofs.YtllchnancjgijaaGreat
open Go.ChangeShapes Go.WideShapes Go.ChangeAt Go.RowKit
theorem cl_yU16 : Tryz.prog.cellsOf 33 = 1 := by kernel_rfl
theorem cl_9 : Tryz.prog.cellsOf 9 = 1 := by kernel_rfl
theorem cl_3 : Tryz.prog.cellsOf 3 = 1 := by kernel_rfl
theorem cl_2 : Tryz.prog.cellsOf 2 = 1 := by kernel_rfl
theorem cl_KyA : Tryz.prog.cellsOf 35 = 2 := by kernel_rfl
structure KyA where
 sp : Int
 nm : ByteArray
def KyA.ok (a : KyA) : Prop := (Lit.int .u16 a.sp).wf = true ∧ a.nm.size ≤ maxLen
def KyA.cs (a : KyA) : Array Value := #[.int .u16 a.sp, .string a.nm]
set_option maxRecDepth 100000 in
theorem fields_KyA {H : Type} {enc : TypeId × Value → H} {W : World} {base fuel : Nat} {spare : Nat → Bool} {held : Bool} {cs : List Value} {x : DataW H × List MemPlace} (h : DataW.trod enc Tryz.prog W base spare held fuel 35 cs = some x) (hl : cs.length = 2) :
  ∃ a : KyA, cs = a.cs.toList ∧ a.ok := by
 obtain ⟨ys, k, hk, hxy, _, hyl, hfe⟩ := DataW.trod_struct Tryz.underlying35 h
 match cs, hl with
 | [v0, v1], _ =>
  have hy : ys.length = 2 := hyl
  match ys, hy with
  | [y0, y1], _ =>
   have g0 := hfe 0 _ rfl
   have g1 := hfe 1 _ rfl
   simp [cl_9, cl_yU16] at g0 g1
   obtain ⟨A0, e0, _, w0⟩ := DataW.trod_int Tryz.underlying33 g0
   obtain ⟨A1, e1, _, w1⟩ := DataW.trod_string Tryz.underlying9 g1
   simp only [List.cons.injEq, and_true] at e0 e1
   subst e0 e1
   exact ⟨⟨A0, A1⟩, rfl, w0, w1⟩
theorem cl_FaA : Tryz.prog.cellsOf 37 = 3 := by kernel_rfl
structure FaA where
 kd : Int
 cd : Int
 rn : Int
def FaA.ok (a : FaA) : Prop := W64 a.kd ∧ W64 a.cd ∧ W64 a.rn
def FaA.cs (a : FaA) : Array Value := #[.int .i64 a.kd, .int .i64 a.cd, .int .i64 a.rn]
set_option maxRecDepth 100000 in
theorem fields_FaA {H : Type} {enc : TypeId × Value → H} {W : World} {base fuel : Nat} {spare : Nat → Bool} {held : Bool} {cs : List Value} {x : DataW H × List MemPlace} (h : DataW.trod enc Tryz.prog W base spare held fuel 37 cs = some x) (hl : cs.length = 3) :
  ∃ a : FaA, cs = a.cs.toList ∧ a.ok := by
 obtain ⟨ys, k, hk, hxy, _, hyl, hfe⟩ := DataW.trod_struct Tryz.underlying37 h
 match cs, hl with
 | [v0, v1, v2], _ =>
  have hy : ys.length = 3 := hyl
  match ys, hy with
  | [y0, y1, y2], _ =>
   have g0 := hfe 0 _ rfl
   have g1 := hfe 1 _ rfl
   have g2 := hfe 2 _ rfl
   simp [cl_3] at g0 g1 g2
   obtain ⟨A0, e0, _, w0⟩ := DataW.trod_int Tryz.underlying3 g0
   obtain ⟨A1, e1, _, w1⟩ := DataW.trod_int Tryz.underlying3 g1
   obtain ⟨A2, e2, _, w2⟩ := DataW.trod_int Tryz.underlying3 g2
   simp only [List.cons.injEq, and_true] at e0 e1 e2
   subst e0 e1 e2
   exact ⟨⟨A0, A1, A2⟩, rfl, w0, w1, w2⟩
theorem cl_OuA : Tryz.prog.cellsOf 39 = 4 := by kernel_rfl
structure OuA where
 va : Int
 fl : FaA
def OuA.ok (a : OuA) : Prop := W64 a.va ∧ FaA.ok a.fl
def OuA.cs (a : OuA) : Array Value := #[.int .i64 a.va, .int .i64 a.fl.kd, .int .i64 a.fl.cd, .int .i64 a.fl.rn]
set_option maxRecDepth 100000 in
theorem fields_OuA {H : Type} {enc : TypeId × Value → H} {W : World} {base fuel : Nat} {spare : Nat → Bool} {held : Bool} {cs : List Value} {x : DataW H × List MemPlace} (h : DataW.trod enc Tryz.prog W base spare held fuel 39 cs = some x) (hl : cs.length = 4) :
  ∃ a : OuA, cs = a.cs.toList ∧ a.ok := by
 obtain ⟨ys, k, hk, hxy, _, hyl, hfe⟩ := DataW.trod_struct Tryz.underlying39 h
 match cs, hl with
 | [v0, v1, v2, v3], _ =>
  have hy : ys.length = 2 := hyl
  match ys, hy with
  | [y0, y1], _ =>
   have g0 := hfe 0 _ rfl
   have g1 := hfe 1 _ rfl
   simp [cl_2, cl_FaA] at g0 g1
   obtain ⟨A0, e0, _, w0⟩ := DataW.trod_int Tryz.underlying2 g0
   obtain ⟨A1, b1, w1⟩ := fields_FaA g1 rfl
   simp only [FaA.cs, List.cons.injEq, and_true] at b1
   obtain ⟨e1, e2, e3⟩ := b1
   simp only [List.cons.injEq, and_true] at e0
   subst e0 e1 e2 e3
   exact ⟨⟨A0, A1⟩, rfl, w0, w1⟩
theorem cl_ActG : Tryz.prog.cellsOf 41 = 12 := by kernel_rfl
structure ActG where
 kd : Int
 cl : Int
 tk : Int
 rn : Int
 st : Int
 od : Int
 k : KyA
 o : OuA
def ActG.ok (a : ActG) : Prop := W64 a.kd ∧ W64 a.cl ∧ W64 a.tk ∧ W64 a.rn ∧ W64 a.st ∧ W64 a.od ∧ KyA.ok a.k ∧ OuA.ok a.o
def ActG.cs (a : ActG) : Array Value := #[.int .i64 a.kd, .int .i64 a.cl, .int .i64 a.tk, .int .i64 a.rn, .int .i64 a.st, .int .i64 a.od, .int .u16 a.k.sp, .string a.k.nm, .int .i64 a.o.va, .int .i64 a.o.fl.kd, .int .i64 a.o.fl.cd, .int .i64 a.o.fl.rn]
set_option maxRecDepth 100000 in
theorem fields_ActG {H : Type} {enc : TypeId × Value → H} {W : World} {base fuel : Nat} {spare : Nat → Bool} {held : Bool} {cs : List Value} {x : DataW H × List MemPlace} (h : DataW.trod enc Tryz.prog W base spare held fuel 41 cs = some x) (hl : cs.length = 12) :
  ∃ a : ActG, cs = a.cs.toList ∧ a.ok := by
 obtain ⟨ys, k, hk, hxy, _, hyl, hfe⟩ := DataW.trod_struct Tryz.underlying41 h
 match cs, hl with
 | [v0, v1, v2, v3, v4, v5, v6, v7, v8, v9, v10, v11], _ =>
  have hy : ys.length = 8 := hyl
  match ys, hy with
  | [y0, y1, y2, y3, y4, y5, y6, y7], _ =>
   have g0 := hfe 0 _ rfl
   have g1 := hfe 1 _ rfl
   have g2 := hfe 2 _ rfl
   have g3 := hfe 3 _ rfl
   have g4 := hfe 4 _ rfl
   have g5 := hfe 5 _ rfl
   have g6 := hfe 6 _ rfl
   have g7 := hfe 7 _ rfl
   simp [cl_2, cl_3, cl_KyA, cl_OuA] at g0 g1 g2 g3 g4 g5 g6 g7
   obtain ⟨A0, e0, _, w0⟩ := DataW.trod_int Tryz.underlying3 g0
   obtain ⟨A1, e1, _, w1⟩ := DataW.trod_int Tryz.underlying3 g1
   obtain ⟨A2, e2, _, w2⟩ := DataW.trod_int Tryz.underlying3 g2
   obtain ⟨A3, e3, _, w3⟩ := DataW.trod_int Tryz.underlying3 g3
   obtain ⟨A4, e4, _, w4⟩ := DataW.trod_int Tryz.underlying2 g4
   obtain ⟨A5, e5, _, w5⟩ := DataW.trod_int Tryz.underlying2 g5
   obtain ⟨A6, b6, w6⟩ := fields_KyA g6 rfl
   simp only [KyA.cs, List.cons.injEq, and_true] at b6
   obtain ⟨e6, e7⟩ := b6
   obtain ⟨A7, b7, w7⟩ := fields_OuA g7 rfl
   simp only [OuA.cs, List.cons.injEq, and_true] at b7
   obtain ⟨e8, e9, e10, e11⟩ := b7
   simp only [List.cons.injEq, and_true] at e0 e1 e2 e3 e4 e5
   subst e0 e1 e2 e3 e4 e5 e6 e7 e8 e9 e10 e11
   exact ⟨⟨A0, A1, A2, A3, A4, A5, A6, A7⟩, rfl, w0, w1, w2, w3, w4, w5, w6, w7⟩
theorem cl_CfG : Tryz.prog.cellsOf 23 = 7 := by kernel_rfl
structure CfG where
 t : Int
 n : Int
 s : Int
 e : Int
 f : Int
 b : Int
 d : Int
def CfG.ok (a : CfG) : Prop := W64 a.t ∧ W64 a.n ∧ W64 a.s ∧ W64 a.e ∧ W64 a.f ∧ W64 a.b ∧ W64 a.d
def CfG.cs (a : CfG) : Array Value := #[.int .i64 a.t, .int .i64 a.n, .int .i64 a.s, .int .i64 a.e, .int .i64 a.f, .int .i64 a.b, .int .i64 a.d]
set_option maxRecDepth 100000 in
theorem fields_CfG {H : Type} {enc : TypeId × Value → H} {W : World} {base fuel : Nat} {spare : Nat → Bool} {held : Bool} {cs : List Value} {x : DataW H × List MemPlace} (h : DataW.trod enc Tryz.prog W base spare held fuel 23 cs = some x) (hl : cs.length = 7) :
  ∃ a : CfG, cs = a.cs.toList ∧ a.ok := by
 obtain ⟨ys, k, hk, hxy, _, hyl, hfe⟩ := DataW.trod_struct Tryz.underlying23 h
 match cs, hl with
 | [v0, v1, v2, v3, v4, v5, v6], _ =>
  have hy : ys.length = 7 := hyl
  match ys, hy with
  | [y0, y1, y2, y3, y4, y5, y6], _ =>
   have g0 := hfe 0 _ rfl
   have g1 := hfe 1 _ rfl
   have g2 := hfe 2 _ rfl
   have g3 := hfe 3 _ rfl
   have g4 := hfe 4 _ rfl
   have g5 := hfe 5 _ rfl
   have g6 := hfe 6 _ rfl
   simp [cl_2, cl_3] at g0 g1 g2 g3 g4 g5 g6
   obtain ⟨A0, e0, _, w0⟩ := DataW.trod_int Tryz.underlying2 g0
   obtain ⟨A1, e1, _, w1⟩ := DataW.trod_int Tryz.underlying2 g1
   obtain ⟨A2, e2, _, w2⟩ := DataW.trod_int Tryz.underlying2 g2
   obtain ⟨A3, e3, _, w3⟩ := DataW.trod_int Tryz.underlying3 g3
   obtain ⟨A4, e4, _, w4⟩ := DataW.trod_int Tryz.underlying3 g4
   obtain ⟨A5, e5, _, w5⟩ := DataW.trod_int Tryz.underlying3 g5
   obtain ⟨A6, e6, _, w6⟩ := DataW.trod_int Tryz.underlying2 g6
   simp only [List.cons.injEq, and_true] at e0 e1 e2 e3 e4 e5 e6
   subst e0 e1 e2 e3 e4 e5 e6
   exact ⟨⟨A0, A1, A2, A3, A4, A5, A6⟩, rfl, w0, w1, w2, w3, w4, w5, w6⟩
theorem add_plainA (b off j : Nat) : (⟨b, off, none⟩ : Addr).add j = ⟨b, off + j, none⟩ := by simp [Addr.add]
set_option maxRecDepth 100000 in
theorem open_CfG {H : Type} {enc : TypeId × Value → H} {W : World} {b0 : Nat} {v : Value} {d : DataW H} {p : List MemPlace} (hv : Value.okWide Tryz.prog W .any b0 23 v) (h : DataW.Trod enc Tryz.prog W 0 (fun _ => true) true 23 v d p) : ∃ a : CfG, v = .agg a.cs ∧ a.ok := by
 obtain ⟨cs, rfl, hs⟩ := okWide_struct Tryz.underlying23 hv
 obtain ⟨fuel, hf⟩ := h
 rw [cl_CfG] at hs
 obtain ⟨cl⟩ := cs
 have hs' : cl.length = 7 := by simpa using hs
 obtain ⟨a, e, wa⟩ := fields_CfG (cs := cl) (by simpa [Value.cells] using hf) hs'
 subst e
 exact ⟨a, rfl, wa⟩
structure RowActG (w : World) (b off : Nat) (xs : List ActG) : Prop where
 lt : b < w.heap.size
 c0 : ∀ i (h : i < xs.length), w.cell? ⟨b, off + i * 12, none⟩ = some (.int .i64 xs[i].kd)
 c1 : ∀ i (h : i < xs.length), w.cell? ⟨b, off + i * 12 + 1, none⟩ = some (.int .i64 xs[i].cl)
 c2 : ∀ i (h : i < xs.length), w.cell? ⟨b, off + i * 12 + 2, none⟩ = some (.int .i64 xs[i].tk)
 c3 : ∀ i (h : i < xs.length), w.cell? ⟨b, off + i * 12 + 3, none⟩ = some (.int .i64 xs[i].rn)
 c4 : ∀ i (h : i < xs.length), w.cell? ⟨b, off + i * 12 + 4, none⟩ = some (.int .i64 xs[i].st)
 c5 : ∀ i (h : i < xs.length), w.cell? ⟨b, off + i * 12 + 5, none⟩ = some (.int .i64 xs[i].od)
 c6 : ∀ i (h : i < xs.length), w.cell? ⟨b, off + i * 12 + 6, none⟩ = some (.int .u16 xs[i].k.sp)
 c7 : ∀ i (h : i < xs.length), w.cell? ⟨b, off + i * 12 + 7, none⟩ = some (.string xs[i].k.nm)
 c8 : ∀ i (h : i < xs.length), w.cell? ⟨b, off + i * 12 + 8, none⟩ = some (.int .i64 xs[i].o.va)
 c9 : ∀ i (h : i < xs.length), w.cell? ⟨b, off + i * 12 + 9, none⟩ = some (.int .i64 xs[i].o.fl.kd)
 c10 : ∀ i (h : i < xs.length), w.cell? ⟨b, off + i * 12 + 10, none⟩ = some (.int .i64 xs[i].o.fl.cd)
 c11 : ∀ i (h : i < xs.length), w.cell? ⟨b, off + i * 12 + 11, none⟩ = some (.int .i64 xs[i].o.fl.rn)
def SlActG (w : World) (v : Value) (xs : List ActG) : Prop := (xs = [] ∧ ∃ a c, v = .slice a 0 c) ∨ ∃ b off cap, v = .slice (some ⟨b, off, none⟩) xs.length cap ∧ RowActG w b off xs
theorem RowActG.keep {w w' : World} {b off : Nat} {xs : List ActG} (h : RowActG w b off xs) (ht : Touch [] w w') : RowActG w' b off xs := by
 have e : w'.heap[b]? = w.heap[b]? := ht.block b h.lt (by simp)
 refine ⟨Nat.lt_of_lt_of_le h.lt ht.size, fun i hi => ?_, fun i hi => ?_, fun i hi => ?_, fun i hi => ?_, fun i hi => ?_, fun i hi => ?_, fun i hi => ?_, fun i hi => ?_, fun i hi => ?_, fun i hi => ?_, fun i hi => ?_, fun i hi => ?_⟩
 ·rw [World.cell?_of_block (by exact e)]; exact h.c0 i hi
 ·rw [World.cell?_of_block (by exact e)]; exact h.c1 i hi
 ·rw [World.cell?_of_block (by exact e)]; exact h.c2 i hi
 ·rw [World.cell?_of_block (by exact e)]; exact h.c3 i hi
 ·rw [World.cell?_of_block (by exact e)]; exact h.c4 i hi
 ·rw [World.cell?_of_block (by exact e)]; exact h.c5 i hi
 ·rw [World.cell?_of_block (by exact e)]; exact h.c6 i hi
 ·rw [World.cell?_of_block (by exact e)]; exact h.c7 i hi
 ·rw [World.cell?_of_block (by exact e)]; exact h.c8 i hi
 ·rw [World.cell?_of_block (by exact e)]; exact h.c9 i hi
 ·rw [World.cell?_of_block (by exact e)]; exact h.c10 i hi
 ·rw [World.cell?_of_block (by exact e)]; exact h.c11 i hi
set_option maxRecDepth 100000 in
theorem open_ActGs {H : Type} {enc : TypeId × Value → H} {W : World} {b0 : Nat} {v : Value} {d : DataW H} {p : List MemPlace} (hv : Value.okWide Tryz.prog W .any b0 24 v) (h : DataW.Trod enc Tryz.prog W 0 (fun _ => true) true 24 v d p) :
  ∃ xs : List ActG, SlActG W v xs ∧ (∀ x ∈ xs, x.ok) ∧ (xs = [] ∨ ∃ elems spare, d = .slice elems spare ∧ elems.length = xs.length) := by
 obtain ⟨a, len, cap, rfl⟩ := okWide_slice Tryz.underlying24 hv
 obtain ⟨fuel, hf⟩ := h
 rcases Deep.open_slice Tryz.underlying24 hf with ⟨hcs, _⟩ | ⟨x, l, c, m, n, D, Pl, hcs, _, hl, hm, hmm, hx, hall⟩
 ·simp [Value.cells] at hcs
  obtain ⟨rfl, rfl, rfl⟩ := hcs
  exact ⟨[], Or.inl ⟨rfl, _, _, rfl⟩, fun x hx => by simp at hx, Or.inl rfl⟩
 ·simp [Value.cells] at hcs
  obtain ⟨rfl, rfl, rfl⟩ := hcs
  simp only [if_true] at hmm
  subst hmm
  simp only [Prod.mk.injEq] at hx
  obtain ⟨rfl, rfl⟩ := hx
  rw [cl_ActG] at hall
  have each : ∀ i, i < m → ∃ q : ActG, W.cell? (x.add (i * 12)) = some (.int .i64 q.kd) ∧ W.cell? (x.add (i * 12 + 1)) = some (.int .i64 q.cl) ∧ W.cell? (x.add (i * 12 + 2)) = some (.int .i64 q.tk) ∧ W.cell? (x.add (i * 12 + 3)) = some (.int .i64 q.rn) ∧ W.cell? (x.add (i * 12 + 4)) = some (.int .i64 q.st) ∧ W.cell? (x.add (i * 12 + 5)) = some (.int .i64 q.od) ∧ W.cell? (x.add (i * 12 + 6)) = some (.int .u16 q.k.sp) ∧ W.cell? (x.add (i * 12 + 7)) = some (.string q.k.nm) ∧ W.cell? (x.add (i * 12 + 8)) = some (.int .i64 q.o.va) ∧ W.cell? (x.add (i * 12 + 9)) = some (.int .i64 q.o.fl.kd) ∧ W.cell? (x.add (i * 12 + 10)) = some (.int .i64 q.o.fl.cd) ∧ W.cell? (x.add (i * 12 + 11)) = some (.int .i64 q.o.fl.rn) ∧ q.ok := fun i hi => by
   obtain ⟨cs', h1, h2⟩ := hall i hi
   obtain ⟨_, hlen, hcell⟩ := World.cells?_some h1
   obtain ⟨q, rfl, wq⟩ := fields_ActG h2 hlen
   have e0 := hcell 0 (by omega)
   have e1 := hcell 1 (by omega)
   have e2 := hcell 2 (by omega)
   have e3 := hcell 3 (by omega)
   have e4 := hcell 4 (by omega)
   have e5 := hcell 5 (by omega)
   have e6 := hcell 6 (by omega)
   have e7 := hcell 7 (by omega)
   have e8 := hcell 8 (by omega)
   have e9 := hcell 9 (by omega)
   have e10 := hcell 10 (by omega)
   have e11 := hcell 11 (by omega)
   rw [Deep.add_add] at e0 e1 e2 e3 e4 e5 e6 e7 e8 e9 e10 e11
   exact ⟨q, by simpa [ActG.cs] using e0, by simpa [ActG.cs] using e1, by simpa [ActG.cs] using e2, by simpa [ActG.cs] using e3, by simpa [ActG.cs] using e4, by simpa [ActG.cs] using e5, by simpa [ActG.cs] using e6, by simpa [ActG.cs] using e7, by simpa [ActG.cs] using e8, by simpa [ActG.cs] using e9, by simpa [ActG.cs] using e10, by simpa [ActG.cs] using e11, wq⟩
  haveI : Inhabited ActG := ⟨⟨0, 0, 0, 0, 0, 0, ⟨0, ⟨#[]⟩⟩, ⟨0, ⟨0, 0, 0⟩⟩⟩⟩
  obtain ⟨q, hq⟩ := Deep.choose_lt each
  rcases Nat.eq_zero_or_pos len with e | e
  ·subst e
   exact ⟨[], Or.inl ⟨rfl, _, _, rfl⟩, fun x hx => by simp at hx, Or.inl rfl⟩
  ·have hsp : x.spot = none := by
    have h0 := (hq 0 (by omega)).1
    rw [show x.add (0 * 12) = x by simp [Addr.add]] at h0
    unfold World.cell? at h0
    split at h0
    ·split at h0
     ·cases h0
     ·rename_i hs
      cases hh : x.spot with
      | none => rfl
      | some z => rw [hh] at hs; exact absurd rfl hs
    ·cases h0
   obtain ⟨b, off, r⟩ := x
   obtain rfl : r = none := hsp
   have hlen : ((List.range len).map q).length = len := by simp
   refine ⟨(List.range len).map q, Or.inr ⟨b, off, m, by rw [hlen], ?_, fun i hi => ?_, fun i hi => ?_, fun i hi => ?_, fun i hi => ?_, fun i hi => ?_, fun i hi => ?_, fun i hi => ?_, fun i hi => ?_, fun i hi => ?_, fun i hi => ?_, fun i hi => ?_, fun i hi => ?_⟩, fun y hy => ?_, Or.inr ⟨_, _, rfl, by simp⟩⟩
   ·rcases Nat.lt_or_ge b W.heap.size with h | h
    ·exact h
    ·have h0 := (hq 0 (by omega)).1
     simp [World.cell?, add_plainA, Array.getElem?_eq_none h] at h0
   ·rw [hlen] at hi
    have h0 := (hq i (by omega)).1
    simpa [add_plainA, Nat.add_assoc] using h0
   ·rw [hlen] at hi
    have h0 := (hq i (by omega)).2.1
    simpa [add_plainA, Nat.add_assoc] using h0
   ·rw [hlen] at hi
    have h0 := (hq i (by omega)).2.2.1
    simpa [add_plainA, Nat.add_assoc] using h0
   ·rw [hlen] at hi
    have h0 := (hq i (by omega)).2.2.2.1
    simpa [add_plainA, Nat.add_assoc] using h0
   ·rw [hlen] at hi
    have h0 := (hq i (by omega)).2.2.2.2.1
    simpa [add_plainA, Nat.add_assoc] using h0
   ·rw [hlen] at hi
    have h0 := (hq i (by omega)).2.2.2.2.2.1
    simpa [add_plainA, Nat.add_assoc] using h0
   ·rw [hlen] at hi
    have h0 := (hq i (by omega)).2.2.2.2.2.2.1
    simpa [add_plainA, Nat.add_assoc] using h0
   ·rw [hlen] at hi
    have h0 := (hq i (by omega)).2.2.2.2.2.2.2.1
    simpa [add_plainA, Nat.add_assoc] using h0
   ·rw [hlen] at hi
    have h0 := (hq i (by omega)).2.2.2.2.2.2.2.2.1
    simpa [add_plainA, Nat.add_assoc] using h0
   ·rw [hlen] at hi
    have h0 := (hq i (by omega)).2.2.2.2.2.2.2.2.2.1
    simpa [add_plainA, Nat.add_assoc] using h0
   ·rw [hlen] at hi
    have h0 := (hq i (by omega)).2.2.2.2.2.2.2.2.2.2.1
    simpa [add_plainA, Nat.add_assoc] using h0
   ·rw [hlen] at hi
    have h0 := (hq i (by omega)).2.2.2.2.2.2.2.2.2.2.2.1
    simpa [add_plainA, Nat.add_assoc] using h0
   ·simp only [List.mem_map, List.mem_range] at hy
    obtain ⟨i, hi, rfl⟩ := hy
    exact (hq i (by omega)).2.2.2.2.2.2.2.2.2.2.2.2
set_option maxRecDepth 100000 in
theorem laidOut : laidOutB Tryz.prog = true := by kernel_rfl
def CfG.cf (c : CfG) : Me.Cf := ⟨c.t, c.n, c.s, c.e, c.f, c.b, c.d⟩
theorem CfG.w7 {c : CfG} (h : c.ok) : W7 c.cf := ⟨h.1.hi, h.2.1.hi, h.2.2.1.hi, h.2.2.2.2.2.2.hi⟩
end Go.Proofs.YtllchnancjgijaaGreat
/- Four things side by side in memory; what the law of keys apart stands on, in plain words; no program's walk. -/
namespace Go.Proofs.YtllchnancjgijaaGreat
open Go.RowKit Go.Maps Go.ChangeMaps
structure Ob (O : World → List Nat → Prop) : Prop where
 lt : ∀ {w : World} {F : List Nat}, O w F → ∀ k, k ∈ F → k < w.heap.size
 aw : ∀ {w : World} {F : List Nat}, O w F → ∀ (k : Nat) (cs : Array Value) (t : TypeId) (z : Nat × Nat), w.heap[k]? = some (.cells cs t z) → (boxS t = true ∨ t = 29) → ¬ k ∈ F
 kp : ∀ {w w' : World} {F D : List Nat}, O w F → Touch D w w' → (∀ k, k ∈ F → ¬ k ∈ D) → (∀ (g : Nat) (cs : Array Value) (z : Nat × Nat), w.heap[g]? = some (.cells cs 29 z) → ¬ g ∈ D) → O w' F
def Ho (s : Nat) (l : List Gp) (now : Int) (M : Nat) : World → List Nat → Prop := fun w F => Hq w s F l now [] M
def Go4 (g : Nat) (X : Gp) (M : Nat) : World → List Nat → Prop := fun w F => ∃ P N, Gq w g P F X N ∧ Gk X N M
theorem ob_h (s : Nat) (l : List Gp) (now : Int) (M : Nat) : Ob (Ho s l now M) where
 lt h := Hq.lt h
 aw h k cs t z hk ht := by
  rcases ht with ht | ht
  ·exact Hq.away h hk (boxS_of ht).1 (boxS_of ht).2.1
  ·subst ht
   exact Hq.away h hk (by decide) (by decide)
 kp h T h1 h2 := Hq.keep h T h1 h2
theorem ob_g (g : Nat) (X : Gp) (M : Nat) : Ob (Go4 g X M) where
 lt h := by obtain ⟨P, N, q, _⟩ := h; exact q.lt
 aw h k cs t z hk ht := by
  obtain ⟨P, N, q, _⟩ := h
  rcases ht with ht | ht
  ·exact q.away hk (boxS_of ht).1
  ·subst ht
   exact q.away hk (by decide)
 kp h T h1 h2 := by obtain ⟨P, N, q, hg⟩ := h; exact ⟨P, N, q.keep T h1, hg⟩
def As4 (w wr : World) (O1 O2 O3 O4 : World → List Nat → Prop) : Prop := ∃ F1 F2 F3 F4, O1 wr F1 ∧ O2 wr F2 ∧ O3 wr F3 ∧ O4 wr F4 ∧ Dj F1 F2 ∧ Dj F1 F3 ∧ Dj F1 F4 ∧ Dj F2 F3 ∧ Dj F2 F4 ∧ Dj F3 F4 ∧ Touch [] w wr ∧ ∀ k, k ∈ F1 ++ (F2 ++ (F3 ++ F4)) → w.heap.size ≤ k
section
variable {w wr w2 : World} {O1 O1' O2 O3 O4 : World → List Nat → Prop}
theorem As4.tch (h : As4 w wr O1 O2 O3 O4) : Touch [] w wr := by obtain ⟨_, _, _, _, _, _, _, _, _, _, _, _, _, _, t, _⟩ := h; exact t
theorem As4.rot (h : As4 w wr O1 O2 O3 O4) : As4 w wr O2 O3 O4 O1 := by
 obtain ⟨F1, F2, F3, F4, h1, h2, h3, h4, d12, d13, d14, d23, d24, d34, t, f⟩ := h
 refine ⟨F2, F3, F4, F1, h2, h3, h4, h1, d23, d24, d12.symm, d34, d13.symm, d14.symm, t, fun k hk => f k ?_⟩
 simp only [List.mem_append] at hk ⊢
 rcases hk with e | e | e | e
 ·exact Or.inr (Or.inl e)
 ·exact Or.inr (Or.inr (Or.inl e))
 ·exact Or.inr (Or.inr (Or.inr e))
 ·exact Or.inl e
theorem as4_step {F1 F2 F3 F4 F' : List Nat} (b1 : Ob O1) (b2 : Ob O2) (b3 : Ob O3) (b4 : Ob O4) (h1 : O1 wr F1) (r : O2 wr F2 ∧ O3 wr F3 ∧ O4 wr F4 ∧ Dj F1 F2 ∧ Dj F1 F3 ∧ Dj F1 F4 ∧ Dj F2 F3 ∧ Dj F2 F4 ∧ Dj F3 F4 ∧ Touch [] w wr ∧ ∀ k, k ∈ F1 ++ (F2 ++ (F3 ++ F4)) → w.heap.size ≤ k) (q : O1' w2 F') (T : Touch F1 wr w2) (nf : Nf wr F1 F') : As4 w w2 O1' O2 O3 O4 ∧ KeepS wr w2 := by
 obtain ⟨h2, h3, h4, d12, d13, d14, d23, d24, d34, t, f⟩ := r
 have hr : ∀ (g : Nat) (cs : Array Value) (z : Nat × Nat), wr.heap[g]? = some (.cells cs 29 z) → ¬ g ∈ F1 := fun g cs z hg => b1.aw h1 g cs _ z hg (Or.inr rfl)
 have hf : ∀ k, k ∈ F1 → w.heap.size ≤ k := fun k hk => f k (List.mem_append_left _ hk)
 refine ⟨⟨F', F2, F3, F4, q, b2.kp h2 T (fun k hk e => d12 k e hk) hr, b3.kp h3 T (fun k hk e => d13 k e hk) hr, b4.kp h4 T (fun k hk e => d14 k e hk) hr, d12.grow nf (b2.lt h2), d13.grow nf (b3.lt h3), d14.grow nf (b4.lt h4), d23, d24, d34, t.trans T (fun i hi => Or.inr (hf i hi)), fun k hk => ?_⟩, fun k cs ty z ht hk => T.keep hk (b1.aw h1 k cs ty z hk (Or.inl ht))⟩
 rcases List.mem_append.1 hk with e | e
 ·rcases nf k e with e | e
  ·exact hf k e
  ·exact Nat.le_trans t.size e
 ·exact f k (List.mem_append_right _ e)
theorem As4.step (h : As4 w wr O1 O2 O3 O4) (b1 : Ob O1) (b2 : Ob O2) (b3 : Ob O3) (b4 : Ob O4) (S : ∀ F, O1 wr F → ∃ F', O1' w2 F' ∧ Touch F wr w2 ∧ Nf wr F F') : As4 w w2 O1' O2 O3 O4 ∧ KeepS wr w2 := by
 obtain ⟨F1, F2, F3, F4, h1, r⟩ := h
 obtain ⟨F', q, T, nf⟩ := S F1 h1
 exact as4_step b1 b2 b3 b4 h1 r q T nf
theorem As4.keep0 (h : As4 w wr O1 O2 O3 O4) (b1 : Ob O1) (b2 : Ob O2) (b3 : Ob O3) (b4 : Ob O4) (T : Touch [] wr w2) : As4 w w2 O1 O2 O3 O4 :=
 (h.step b1 b2 b3 b4 (O1' := O1) (fun F h1 => ⟨F, b1.kp h1 T (fun _ _ e => by cases e) (fun _ _ _ _ e => by cases e), T.mono (fun _ e => by cases e), Nf.refl _ _⟩)).1
theorem As4.box (h : As4 w wr O1 O2 O3 O4) (b1 : Ob O1) (b2 : Ob O2) (b3 : Ob O3) (b4 : Ob O4) {b : Nat} {cs : Array Value} {t : TypeId} {z : Nat × Nat} (hb : wr.heap[b]? = some (.cells cs t z)) (ht : boxS t = true) (hw : w.heap.size ≤ b) (T : Touch [b] wr w2) : As4 w w2 O1 O2 O3 O4 := by
 obtain ⟨F1, F2, F3, F4, h1, h2, h3, h4, d12, d13, d14, d23, d24, d34, t', f⟩ := h
 have ha : ∀ {O : World → List Nat → Prop} {F : List Nat}, Ob O → O wr F → ∀ k, k ∈ F → ¬ k ∈ [b] := fun bo ho k hk e => by
  simp only [List.mem_singleton] at e
  subst e
  exact bo.aw ho _ _ _ _ hb (Or.inl ht) hk
 have hr : ∀ (g : Nat) (cs : Array Value) (z : Nat × Nat), wr.heap[g]? = some (.cells cs 29 z) → ¬ g ∈ [b] := fun g cs z hg e => by
  simp only [List.mem_singleton] at e
  rw [e, hb] at hg
  simp only [Option.some.injEq, Obj.cells.injEq] at hg
  exact (boxS_of ht).2.2 hg.2.1
 exact ⟨F1, F2, F3, F4, b1.kp h1 T (ha b1 h1) hr, b2.kp h2 T (ha b2 h2) hr, b3.kp h3 T (ha b3 h3) hr, b4.kp h4 T (ha b4 h4) hr, d12, d13, d14, d23, d24, d34, t'.trans T (fun i hi => Or.inr (by simp only [List.mem_singleton] at hi; omega)), f⟩
end
/-! ### Plain -/
section
variable {X : Gp} {N : Cn} {M : Nat}
theorem Gk.end1 (hg : Gk X N M) (i1 : Ta.Ti X.T N.t) (i3 : (Me.keysL X.en).Nodup) (n r : Int) (o : O) : Gk (edX X n r o) (edC X n r o N) (M + 1) := by
 have hl : (edX X n r o).L.length ≤ X.L.length := by
  rw [ed_l]
  split
  ·exact List.length_filter_le _ _
  ·exact Nat.le_refl _
 have hc := edC_b X n r o N
 have b1 := hg.nt
 have b2 := hg.nb
 have b3 := hg.ns
 exact ⟨hg.gi.end_ i1 i3 n r o, hg.gt.ed_ n r o, by omega, by omega, by omega⟩
theorem Gk.end0 (hg : Gk X N M) (i1 : Ta.Ti X.T N.t) (i3 : (Me.keysL X.en).Nodup) (n r : Int) (o : O) {y : Lv.Se} (hy : y ∈ X.L) (hr : y.2.1 = r) : Gk (edX X n r o) (edC X n r o N) M := by
 have hc := edC_b X n r o N
 have b1 := hg.nt
 have b2 := hg.nb
 have b3 := hg.ns
 have key : (edC X n r o N).t + (edX X n r o).L.length ≤ N.t + X.L.length := by
  by_cases hE : edE X n r o = 0
  ·rw [ed_l, if_pos hE]
   have : (Lv.outL 1 r X.L).length < X.L.length := by
    unfold Lv.outL
    refine List.length_filter_lt_length_iff_exists.2 ⟨y, hy, ?_⟩
    simp [Lv.bn, hr]
   omega
  ·rw [ed_l, if_neg hE]
   have : edC X n r o N = N := by unfold edC; rw [if_pos hE]
   rw [this]
   exact Nat.le_refl _
 exact ⟨hg.gi.end_ i1 i3 n r o, hg.gt.ed_ n r o, by omega, by omega, by omega⟩
theorem ren_run {Y : Gp} {M : Nat} (hT : Ta.Ti Y.T M) (k : K) : 0 ≤ (renJ Y k).run ∧ (renJ Y k).run ≤ M + 1 := by
 unfold renJ
 split
 ·rename_i R hR
  obtain ⟨⟨S, hS⟩, _⟩ := Ta.curOf_some hR
  have h1 := hT.rng _ hS
  have h2 := hT.bg
  dsimp only at h1 ⊢
  omega
 ·split
  ·have h2 := hT.bg
   show 0 ≤ Y.T.bg + 1 ∧ Y.T.bg + 1 ≤ M + 1
   omega
  ·show (0 : Int) ≤ 0 ∧ (0 : Int) ≤ M + 1
   omega
theorem mee_run {Y : Gp} {M : Nat} (hT : Ta.Ti Y.T M) (k : K) (z : Int) : 0 ≤ (meeJ Y k z).run ∧ (meeJ Y k z).run ≤ M + 1 := by
 unfold meeJ
 split
 ·show (0 : Int) ≤ 0 ∧ (0 : Int) ≤ M + 1
  omega
 ·split
  ·exact ren_run hT k
  ·show (0 : Int) ≤ 0 ∧ (0 : Int) ≤ M + 1
   omega
theorem tel_run {Y : Gp} {M : Nat} (hT : Ta.Ti Y.T M) (k : K) : 0 ≤ (telJ Y k).run ∧ (telJ Y k).run ≤ M + 1 := by
 unfold telJ
 split
 ·exact mee_run hT k _
 ·show (0 : Int) ≤ 0 ∧ (0 : Int) ≤ M + 1
  omega
theorem jo_run {M : Nat} (hT : Ta.Ti X.T M) (n : Int) (k : K) (x t : Int) : 0 ≤ (joJ X n k x t).run ∧ (joJ X n k x t).run ≤ M + 1 := by
 rcases jo_seat hT n k x t with ⟨hw, _⟩ | ⟨_, _, _, h1, h2, _⟩
 ·unfold joJ at hw ⊢
  split
  ·show (0 : Int) ≤ 0 ∧ (0 : Int) ≤ M + 1
   omega
  ·rename_i hm
   rw [if_neg hm] at hw
   split
   ·exact tel_run (Y := { X with now := n }) hT k
   ·rename_i hb
    rw [if_neg hb] at hw
    unfold waiJ at hw ⊢
    split
    ·rename_i R hR
     rw [hR] at hw
     exact absurd (Or.inl rfl) hw
    ·rename_i hR
     rw [hR] at hw
     split
     ·rename_i hz
      simp only [hz, if_true] at hw
      exact absurd (Or.inr rfl) hw
     ·show (0 : Int) ≤ 0 ∧ (0 : Int) ≤ M + 1
      omega
 ·omega
theorem jo_one {M : Nat} (hT : Ta.Ti X.T M) (n : Int) (k : K) (x t : Int) (N : Cn) (hw : ¬ ((joJ X n k x t).how = 3 ∨ (joJ X n k x t).how = 5)) (hr : (joJ X n k x t).run ≠ 0) : (joC X n k x t N).t + (joX X n k x t).L.length ≤ N.t + X.L.length + 1 ∧ (joC X n k x t N).b ≤ N.b + 1 ∧ (joC X n k x t N).s ≤ N.s := by
 have hL : (joX X n k x t).L = X.L := by
  rcases jo_seat hT n k x t with ⟨_, e⟩ | ⟨h, _⟩
  ·exact e
  ·exact absurd h hw
 rw [hL]
 unfold joJ at hw hr
 unfold joC
 split
 ·exact ⟨by omega, by omega, Nat.le_refl _⟩
 ·rename_i hm
  rw [if_neg hm] at hw hr
  split
  ·unfold meeC
   split
   ·unfold renC
    split
    ·exact ⟨by omega, by omega, Nat.le_refl _⟩
    ·split <;> exact ⟨by dsimp only; omega, by dsimp only; omega, Nat.le_refl _⟩
   ·exact ⟨by omega, by omega, Nat.le_refl _⟩
  ·rename_i hb
   rw [if_neg hb] at hw hr
   exfalso
   unfold waiJ at hw hr
   split at hw
   ·exact hw (Or.inl rfl)
   ·rename_i hR
    rw [hR] at hr
    split at hw
    ·exact hw (Or.inr rfl)
    ·rename_i hz
     simp only [hz, if_false] at hr
     exact hr rfl
theorem ap_cost (X : Gp) (M : Nat) (n : Int) (k : K) (x t : Int) (hex : ∃ N, Gk X N M ∧ Ta.Ti X.T N.t) : ∃ M1, M + 1 ≤ M1 ∧ M1 ≤ M + 2 ∧ (∀ N, Gk X N M → Ta.Ti X.T N.t → Gk (joX X n k x t) (joC X n k x t N) M1) ∧ ((joJ X n k x t).run ≠ 0 → ∀ N (o : O), Gk (joX X n k x t) N M1 → Ta.Ti (joX X n k x t).T N.t → (Me.keysL (joX X n k x t).en).Nodup → Gk (edX (joX X n k x t) n (joJ X n k x t).run o) (edC (joX X n k x t) n (joJ X n k x t).run o N) (M + 2)) := by
 obtain ⟨N0, hg0, hT0⟩ := hex
 by_cases hw : (joJ X n k x t).how = 3 ∨ (joJ X n k x t).how = 5
 ·refine ⟨M + 2, by omega, Nat.le_refl _, fun N hg hT => hg.join hT n k x t, fun hr N o hg hT hn => ?_⟩
  rcases jo_seat hT0 n k x t with ⟨h, _⟩ | ⟨_, _, e, _⟩
  ·exact absurd hw h
  ·exact hg.end0 hT hn n _ o (y := (x, (joJ X n k x t).run, t)) (by rw [e]; simp) rfl
 ·by_cases hr : (joJ X n k x t).run ≠ 0
  ·refine ⟨M + 1, Nat.le_refl _, by omega, fun N hg hT => ?_, fun _ N o hg hT hn => hg.end1 hT hn n _ o⟩
   have c := jo_one hT n k x t N hw hr
   have b1 := hg.nt
   have b2 := hg.nb
   have b3 := hg.ns
   exact ⟨hg.gi.jo_ hT n k x t, hg.gt.jo_ n k x t, by omega, by omega, by omega⟩
  ·exact ⟨M + 2, by omega, Nat.le_refl _, fun N hg hT => hg.join hT n k x t, fun h => absurd h hr⟩
end
theorem w64in {z : Int} (h : -9223372036854775808 ≤ z ∧ z ≤ 9223372036854775807) : wrap64 z = z := by unfold wrap64; omega
theorem num_small {n p : Nat} (hp : p < n) (hn : n ≤ 64) {r : Int} (h1 : 1 ≤ r) (h2 : r ≤ 3000000000000) : numW n (p : Int) r = (r - 1) * n + p + 1 ∧ 1 ≤ (r - 1) * (n : Int) + p + 1 ∧ (r - 1) * (n : Int) + p + 1 ≤ 200000000000000 := by
 have h3 : (r - 1) * (n : Int) ≤ 3000000000000 * 64 := by
  have := Int.mul_le_mul (show r - 1 ≤ 3000000000000 by omega) (show (n : Int) ≤ 64 by omega) (by omega) (by omega)
  exact this
 have h4 : 0 ≤ (r - 1) * (n : Int) := Int.mul_nonneg (by omega) (by omega)
 refine ⟨?_, by omega, by omega⟩
 unfold numW
 rw [if_neg (by omega), w64in (z := r - 1) (by omega), w64in (z := (r - 1) * (n : Int)) (by omega), w64in (z := (r - 1) * (n : Int) + p) (by omega), w64in (by omega)]
theorem num_back {n p : Nat} (hp : p < n) (hn : n ≤ 64) {r : Int} (h1 : 1 ≤ r) (h2 : r ≤ 3000000000000) : plR n (numW n (p : Int) r) = p ∧ owR n (numW n (p : Int) r) = r := by
 obtain ⟨e, _⟩ := num_small hp hn h1 h2
 have hd : ((r - 1) * (n : Int) + p + 1 - 1) / (n : Int) = r - 1 := by
  rw [show (r - 1) * (n : Int) + p + 1 - 1 = p + (r - 1) * (n : Int) by omega, Int.add_mul_ediv_right _ _ (by omega), Int.ediv_eq_zero_of_lt (by omega) (by omega)]
  omega
 have hm : ((r - 1) * (n : Int) + p + 1 - 1) % (n : Int) = p := by
  rw [show (r - 1) * (n : Int) + p + 1 - 1 = p + (r - 1) * (n : Int) by omega, Int.add_mul_emod_self_right, Int.emod_eq_of_lt (by omega) (by omega)]
 unfold plR owR
 rw [e, hd, hm]
 exact ⟨by omega, by omega⟩
theorem num_one {r : Int} (h1 : 0 ≤ r) (h2 : r ≤ 3000000000000) : numW 1 ((0 : Nat) : Int) r = r := by
 by_cases h : r = 0
 ·subst h; rfl
 ·obtain ⟨e, _⟩ := num_small (n := 1) (p := 0) (by omega) (by omega) (r := r) (by omega) h2
  rw [e]
  simp
def apS (st : Int) : Int := if st.tmod 8 < 0 then 0 else st.tmod 8
theorem apS_b (st : Int) : 0 ≤ apS st ∧ apS st ≤ 7 := by
 have := Int.tmod_lt_of_pos st (show (0 : Int) < 8 by omega)
 unfold apS
 split <;> omega
theorem plc_one (k : K) : Ky.plc k 1 = 0 := by have := Ky.plc_lt k (n := 1) (by omega); omega
def Upto (l : List Gp) (i : Nat) : Prop := ∀ Z ∈ l, ∀ c, Sit Z c → c ≤ (i : Int)
theorem Upto.mono {l : List Gp} {i j : Nat} (h : Upto l i) (hij : i ≤ j) : Upto l j := fun Z hZ c hc => by have := h Z hZ c hc; omega
theorem Upto.set {l : List Gp} {i p : Nat} {Y : Gp} (h : Upto l i) (hY : ∀ c, Sit Y c → c ≤ (i : Int)) : Upto (l.set p Y) i := fun Z hZ c hc => by
 rcases List.mem_or_eq_of_mem_set hZ with e | e
 ·exact h Z e c hc
 ·rw [e] at hc; exact hY c hc
theorem jo_upto {X : Gp} {M i : Nat} (hT : Ta.Ti X.T M) (h : ∀ c, Sit X c → c ≤ (i : Int)) (n : Int) (k : K) (t : Int) : ∀ c, Sit (joX X n k ((i : Int) + 1) t) c → c ≤ ((i + 1 : Nat) : Int) := fun c hc => by
 rcases jo_seat hT n k ((i : Int) + 1) t with ⟨_, e⟩ | ⟨_, _, e, _⟩
 ·unfold Sit at hc
  rw [e] at hc
  have := h c hc
  omega
 ·rcases (sit_snoc e c).1 hc with q | q
  ·have := h c q; omega
  ·omega
theorem ed_upto {X : Gp} {i : Nat} (h : ∀ c, Sit X c → c ≤ (i : Int)) (n r : Int) (o : O) : ∀ c, Sit (edX X n r o) c → c ≤ (i : Int) := fun c ⟨y, hy, e⟩ => by
 refine h c ⟨y, ?_, e⟩
 rw [ed_l] at hy
 split at hy
 ·exact (List.mem_filter.1 hy).1
 ·exact hy
theorem sj_ok {l : List Gp} {now n : Int} {k : K} {i : Nat} (h0 : 0 ≤ n) (h1 : n ≤ 4611686018427387904) (h2 : now ≤ n) (hk : k.2.size ≤ 64) (hu : Upto l i) : sjE l now [] n k ((i : Int) + 1) 0 = 0 := by
 have ht : Me.tickE now n = 0 := by
  unfold Me.tickE Me.isT
  rw [if_pos (by simp; omega), if_neg (by omega)]
 unfold sjE
 rw [if_neg (by simp [ht]), if_neg (by omega), if_neg (by omega), if_neg (by simp), if_neg ?_]
 rw [wpos_none.2 (fun Z hZ hc => by have := hu Z hZ _ hc; omega)]
 simp
def Cmn (ls lt : List Gp) (p : Int) : Prop := (p = -1 ∧ ls = lt) ∨ ∃ q : Nat, p = (q : Int) ∧ q < ls.length ∧ ls[q]? = lt[q]?
structure ApP (ls lt : List Gp) (X : Gp) (ns nt n1 now p : Int) (n i : Nat) : Prop where
 l1 : ls.length = n
 l2 : lt.length = n
 t1 : ns ≤ now
 t2 : nt ≤ now
 t3 : n1 ≤ now
 z : 0 ≤ now
 y : now ≤ 4611686018427387904 + 8 * i
 u1 : Upto ls i
 u2 : Upto lt i
 u3 : Upto [X] i
 cm : Cmn ls lt p
def ApI (w wr : World) (s t u g n i : Nat) (now p : Int) : Prop := ∃ ls lt X ns nt n1, As4 w wr (Ho s ls ns (2 * i)) (Ho t lt nt (2 * i)) (Ho u [X] n1 (2 * i)) (Go4 g X (2 * i)) ∧ ApP ls lt X ns nt n1 now p n i
end Go.Proofs.YtllchnancjgijaaGreat
