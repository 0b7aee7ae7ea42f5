/- The contract of unlink: an item that is there is taken out, its neighbours are joined. -/
import Derived.Test.YtmbjjkdocmcpdaaPul
namespace Go.Proofs.Ytmbjjkdocmcpdaa
open Go.RowKit Go.Maps Go.ChangeMaps
set_option linter.unusedVariables false

theorem chn_be {f l : Int} {be af : Int → Int} {xs : List Int} (h : Chn f l be af xs) (hn : xs.Nodup) {p : Nat} (hp : p < xs.length) (e : xs[p] ≠ f) : be xs[p] ∈ xs ∧ be xs[p] ≠ xs[p] := by
  have e0 : p ≠ 0 := fun e' => e ((chn_first h hn hp).2 e')
  have := (h.adj (p - 1) (by omega)).2
  have e1 : p - 1 + 1 = p := by omega
  simp only [e1] at this
  rw [this]
  exact ⟨List.getElem_mem _, fun e' => by have := nd_inj hn (by omega) hp e'; omega⟩
theorem chn_af {f l : Int} {be af : Int → Int} {xs : List Int} (h : Chn f l be af xs) (hn : xs.Nodup) {p : Nat} (hp : p < xs.length) (e : xs[p] ≠ l) : af xs[p] ∈ xs ∧ af xs[p] ≠ xs[p] := by
  have e0 : p ≠ xs.length - 1 := fun e' => e ((chn_last h hn hp).2 e')
  rw [(h.adj p (by omega)).1]
  exact ⟨List.getElem_mem _, fun e' => by have := nd_inj hn (by omega) hp e'; omega⟩
theorem chn_ba {f l : Int} {be af : Int → Int} {xs : List Int} (h : Chn f l be af xs) (hn : xs.Nodup) {p : Nat} (hp : p < xs.length) (e : xs[p] ≠ f) (e2 : xs[p] ≠ l) : be xs[p] ≠ af xs[p] := by
  have e0 : p ≠ 0 := fun e' => e ((chn_first h hn hp).2 e')
  have e3 : p ≠ xs.length - 1 := fun e' => e2 ((chn_last h hn hp).2 e')
  have := (h.adj (p - 1) (by omega)).2
  have e1 : p - 1 + 1 = p := by omega
  simp only [e1] at this
  rw [this, (h.adj p (by omega)).1]
  exact fun e' => by have := nd_inj hn (by omega) (by omega) e'; omega

set_option maxHeartbeats 4000000 in
set_option maxRecDepth 100000 in
theorem unlink34_fl (w : World) (q b : Nat) (f l : Int) (be af : Int → Int) (xs : List Int) (p : Nat) (hp : p < xs.length) (h1 : xs.Nodup) (h2 : ∀ x ∈ xs, W64 x) (h3 : xs.length ≤ 65536) (hc : TC w q f l (some b)) (hm : MapAt w b xs.length (lmap be af xs)) (hch : Chn f l be af xs) (hF : xs[p] = f) (hL : xs[p] = l) :
    Calls Try.prog 41 #[P q, .int .i64 xs[p]] w fun e w' => e = .returned (.tuple #[]) ∧ Touch (fp q (some b)) w w' ∧ TQ w' q (some b) (xs.eraseIdx p) := by
  have hbq := hc.map_ne hm
  have hq := block_lt hc
  have hb := hm.lt
  have hne : w.heap.size ≠ q := by omega
  have hne' : q ≠ w.heap.size := by omega
  have hnb : w.heap.size ≠ b := by omega
  have hk : xs[p] ∈ xs := List.getElem_mem hp
  have HK := hid (h2 _ hk)
  have HA := hid (lmap_at (be := be) (af := af) hk)
  have HM := hid hm
  have HC := hid hc
  have HX := hid (And.intro h1 (And.intro h2 (And.intro h3 (And.intro hch (And.intro hF (And.intro hL hp))))))
  have HE := hid (And.intro (chn_del hch h1 hp) (lmap_del hch h1 hp))
  have tf : (xs[p] == f) = true := by simp [hF]
  have tl : (xs[p] == l) = true := by simp [hL]
  have c0 := hc.c0
  have c1 := hc.c1
  have c2 := hc.c2
  have HLen := hid (List.length_eraseIdx_of_lt hp)
  clear hF hL hch h1 h2 hm   hk hc
  generalize hkk : xs[p] = k at *
  have HKK := hid hkk
  clear hkk
  unfold P
  go_enter Try.func41, Try.ntmps41
  go_wp2_with (first
    | (at_lookup; refine wpList_mlook _ rfl _ _ 77 rfl 76 Try.underlying77 (zero79 _) b xs.length (lmap be af xs) rfl HM.out _ rfl HK.out (.agg #[.int .i64 (be k), .int .i64 (af k)]) (by rw [HA.out]; rfl) ?_)
    | (at_delete
       refine wpList_mdel _ rfl _ _ 77 rfl 76 Try.underlying77 b xs.length (lmap be af xs) rfl (HM.out.kept (Below.heap_alloc _ _ _ hb)) _ rfl HK.out ?_
       intro ob hM1
       obtain ⟨W1, hW1⟩ : ∃ W1, W1 = setBlock (w.alloc (.cells #[.int .i64 (be k), .int .i64 (af k)] 76)) b ob := ⟨_, rfl⟩
       have hT1 : TC W1 q f l (some b) := by
         rw [hW1]
         exact (setBlock_other _ _ _ (Ne.symm hbq)).trans ((Below.heap_alloc _ _ _ hq).trans HC.out)
       have hbx : W1.heap[w.heap.size]? = some (.cells #[.int .i64 (be k), .int .i64 (af k)] 76 (0, 0)) := by
         rw [hW1]
         exact (setBlock_other _ _ _ hnb).trans (heap_alloc_new w _)
       have d0 : W1.cell? ⟨w.heap.size, 0, none⟩ = some (.int .i64 (be k)) := by simp [World.cell?, hbx]
       have d1 : W1.cell? ⟨w.heap.size, 1, none⟩ = some (.int .i64 (af k)) := by simp [World.cell?, hbx]
       have HTo := hid (show Touch (fp q (some b)) w W1 by rw [hW1]; exact touch_setBlock ((Touch.refl _ _).alloc _) (by simp [fp]) ob)
       have hM1 : MapAt W1 b (xs.length - 1) (Ytmbjjkdocmcpdaa.del (lmap be af xs) k) := by
         have e := hM1
         rw [HA.out] at e
         rw [hW1]
         exact e
       rw [← hW1]
       have HT1 := hid hT1
       have HM1 := hid hM1
       have HBx := hid hbx
       have z0 := hT1.c0
       have z1 := hT1.c1
       have z2 := hT1.c2
       have y0 := hT1.fr 0
       have y1 := hT1.fr 1
       clear hW1 hT1 hM1 hbx c0 c1 c2)
    | fail)
  go_end0
  obtain ⟨h1, h2, h3, hch, hF, hL, hp⟩ := HX.out
  have hE := HE.out
  have hkk := HKK.out
  refine ⟨rfl, ((HTo.out.setCell (p := ⟨q, 0, none⟩) (by simp [fp]) _).setCell (p := ⟨q, 1, none⟩) (by simp [fp]) _), nodup_eraseIdx h1 p, fun y hy => h2 y (List.mem_of_mem_eraseIdx hy), by have := HLen.out; omega, af k, be k, ((HT1.out.set0 (af k)).set1 (be k)), Or.inr ⟨b, beD l be af k, afD f be af k, rfl, ?_, ?_⟩⟩
  · rw [HLen.out]
    refine MapAt.congr ((HM1.out.setCell (a := ⟨q, 0, none⟩) hbq (.int .i64 (af k))).setCell (a := ⟨q, 1, none⟩) hbq (.int .i64 (be k))) (fun j _ => ?_)
    refine hE.2 _ (Ytmbjjkdocmcpdaa.del (lmap be af xs) k) _ rfl (Or.inl ⟨hF, rfl⟩) (Or.inl ⟨hL, rfl⟩) j
  · have := hE.1
    rw [if_pos hF, if_pos hL] at this
    exact this

set_option maxHeartbeats 4000000 in
set_option maxRecDepth 100000 in
theorem unlink34_fn (w : World) (q b : Nat) (f l : Int) (be af : Int → Int) (xs : List Int) (p : Nat) (hp : p < xs.length) (h1 : xs.Nodup) (h2 : ∀ x ∈ xs, W64 x) (h3 : xs.length ≤ 65536) (hc : TC w q f l (some b)) (hm : MapAt w b xs.length (lmap be af xs)) (hch : Chn f l be af xs) (hF : xs[p] = f) (hL : xs[p] ≠ l) :
    Calls Try.prog 41 #[P q, .int .i64 xs[p]] w fun e w' => e = .returned (.tuple #[]) ∧ Touch (fp q (some b)) w w' ∧ TQ w' q (some b) (xs.eraseIdx p) := by
  have hbq := hc.map_ne hm
  have hq := block_lt hc
  have hb := hm.lt
  have hne : w.heap.size ≠ q := by omega
  have hne' : q ≠ w.heap.size := by omega
  have hnb : w.heap.size ≠ b := by omega
  have hk : xs[p] ∈ xs := List.getElem_mem hp
  have HK := hid (h2 _ hk)
  have HA := hid (lmap_at (be := be) (af := af) hk)
  have HM := hid hm
  have HC := hid hc
  have HX := hid (And.intro h1 (And.intro h2 (And.intro h3 (And.intro hch (And.intro hF (And.intro hL hp))))))
  obtain ⟨ham, hak⟩ := chn_af hch h1 hp hL
  have HAf := hid (And.intro (h2 _ ham) (And.intro ham hak))
  have HE := hid (And.intro (chn_del hch h1 hp) (lmap_del hch h1 hp))
  have tf : (xs[p] == f) = true := by simp [hF]
  have tl : (xs[p] == l) = false := by simp [hL]
  have c0 := hc.c0
  have c1 := hc.c1
  have c2 := hc.c2
  have HLen := hid (List.length_eraseIdx_of_lt hp)
  clear hF hL hch h1 h2 hm  ham hak hk hc
  generalize hkk : xs[p] = k at *
  have HKK := hid hkk
  clear hkk
  unfold P
  go_enter Try.func41, Try.ntmps41
  go_wp2_with (first
    | (at_lookup; refine wpList_mlook _ rfl _ _ 77 rfl 76 Try.underlying77 (zero79 _) b xs.length (lmap be af xs) rfl HM.out _ rfl HK.out (.agg #[.int .i64 (be k), .int .i64 (af k)]) (by rw [HA.out]; rfl) ?_)
    | (at_delete
       refine wpList_mdel _ rfl _ _ 77 rfl 76 Try.underlying77 b xs.length (lmap be af xs) rfl (HM.out.kept (Below.heap_alloc _ _ _ hb)) _ rfl HK.out ?_
       intro ob hM1
       obtain ⟨W1, hW1⟩ : ∃ W1, W1 = setBlock (w.alloc (.cells #[.int .i64 (be k), .int .i64 (af k)] 76)) b ob := ⟨_, rfl⟩
       have hT1 : TC W1 q f l (some b) := by
         rw [hW1]
         exact (setBlock_other _ _ _ (Ne.symm hbq)).trans ((Below.heap_alloc _ _ _ hq).trans HC.out)
       have hbx : W1.heap[w.heap.size]? = some (.cells #[.int .i64 (be k), .int .i64 (af k)] 76 (0, 0)) := by
         rw [hW1]
         exact (setBlock_other _ _ _ hnb).trans (heap_alloc_new w _)
       have d0 : W1.cell? ⟨w.heap.size, 0, none⟩ = some (.int .i64 (be k)) := by simp [World.cell?, hbx]
       have d1 : W1.cell? ⟨w.heap.size, 1, none⟩ = some (.int .i64 (af k)) := by simp [World.cell?, hbx]
       have HTo := hid (show Touch (fp q (some b)) w W1 by rw [hW1]; exact touch_setBlock ((Touch.refl _ _).alloc _) (by simp [fp]) ob)
       have hM1 : MapAt W1 b (xs.length - 1) (Ytmbjjkdocmcpdaa.del (lmap be af xs) k) := by
         have e := hM1
         rw [HA.out] at e
         rw [hW1]
         exact e
       rw [← hW1]
       have HT1 := hid hT1
       have HM1 := hid hM1
       have HBx := hid hbx
       have z0 := hT1.c0
       have z1 := hT1.c1
       have z2 := hT1.c2
       have y0 := hT1.fr 0
       have y1 := hT1.fr 1
       clear hW1 hT1 hM1 hbx c0 c1 c2)
    | (go_at_call 46
       refine (setBefore43 (W1.setCell ⟨q, 0, none⟩ (.int .i64 (af k))) q b (xs.length - 1) (af k) l _ (af k) (be (af k)) (af (af k)) (be k) (HT1.out.set0 _) (HM1.out.setCell (a := ⟨q, 0, none⟩) hbq _) HAf.out.1 (by simp only [Ytmbjjkdocmcpdaa.del]; rw [if_neg HAf.out.2.2]; exact lmap_at HAf.out.2.1) (maxLen_big (by omega))).mono ?_
       rintro e U ⟨rfl, hTU, hMU⟩)
    | fail)
  go_end0
  obtain ⟨h1, h2, h3, hch, hF, hL, hp⟩ := HX.out
  have hE := HE.out
  have hkk := HKK.out
  refine ⟨rfl, ((HTo.out.setCell (p := ⟨q, 0, none⟩) (by simp [fp]) _).trans hTU (fun i hi => by simp only [List.mem_singleton] at hi; subst hi; simp [fp])), nodup_eraseIdx h1 p, fun y hy => h2 y (List.mem_of_mem_eraseIdx hy), by have := HLen.out; omega, af k, l, ((HT1.out.set0 (af k)).keep hTU (by simpa using Ne.symm hbq)), Or.inr ⟨b, beD l be af k, afD f be af k, rfl, ?_, ?_⟩⟩
  · rw [HLen.out]
    refine MapAt.congr hMU (fun j _ => ?_)
    refine hE.2 _ (Ytmbjjkdocmcpdaa.del (lmap be af xs) k) _ rfl (Or.inl ⟨hF, rfl⟩) (Or.inr ⟨hL, ?_⟩) j
    rw [show afD f be af k (af k) = af (af k) by simp [afD, hF]]
  · have := hE.1
    rw [if_pos hF, if_neg hL] at this
    exact this

set_option maxHeartbeats 4000000 in
set_option maxRecDepth 100000 in
theorem unlink34_nl (w : World) (q b : Nat) (f l : Int) (be af : Int → Int) (xs : List Int) (p : Nat) (hp : p < xs.length) (h1 : xs.Nodup) (h2 : ∀ x ∈ xs, W64 x) (h3 : xs.length ≤ 65536) (hc : TC w q f l (some b)) (hm : MapAt w b xs.length (lmap be af xs)) (hch : Chn f l be af xs) (hF : xs[p] ≠ f) (hL : xs[p] = l) :
    Calls Try.prog 41 #[P q, .int .i64 xs[p]] w fun e w' => e = .returned (.tuple #[]) ∧ Touch (fp q (some b)) w w' ∧ TQ w' q (some b) (xs.eraseIdx p) := by
  have hbq := hc.map_ne hm
  have hq := block_lt hc
  have hb := hm.lt
  have hne : w.heap.size ≠ q := by omega
  have hne' : q ≠ w.heap.size := by omega
  have hnb : w.heap.size ≠ b := by omega
  have hk : xs[p] ∈ xs := List.getElem_mem hp
  have HK := hid (h2 _ hk)
  have HA := hid (lmap_at (be := be) (af := af) hk)
  have HM := hid hm
  have HC := hid hc
  have HX := hid (And.intro h1 (And.intro h2 (And.intro h3 (And.intro hch (And.intro hF (And.intro hL hp))))))
  obtain ⟨hbm, hbk⟩ := chn_be hch h1 hp hF
  have HB := hid (And.intro (h2 _ hbm) (And.intro hbm hbk))
  have HE := hid (And.intro (chn_del hch h1 hp) (lmap_del hch h1 hp))
  have tf : (xs[p] == f) = false := by simp [hF]
  have tl : (xs[p] == l) = true := by simp [hL]
  have c0 := hc.c0
  have c1 := hc.c1
  have c2 := hc.c2
  have HLen := hid (List.length_eraseIdx_of_lt hp)
  clear hF hL hch h1 h2 hm hbm hbk  hk hc
  generalize hkk : xs[p] = k at *
  have HKK := hid hkk
  clear hkk
  unfold P
  go_enter Try.func41, Try.ntmps41
  go_wp2_with (first
    | (at_lookup; refine wpList_mlook _ rfl _ _ 77 rfl 76 Try.underlying77 (zero79 _) b xs.length (lmap be af xs) rfl HM.out _ rfl HK.out (.agg #[.int .i64 (be k), .int .i64 (af k)]) (by rw [HA.out]; rfl) ?_)
    | (at_delete
       refine wpList_mdel _ rfl _ _ 77 rfl 76 Try.underlying77 b xs.length (lmap be af xs) rfl (HM.out.kept (Below.heap_alloc _ _ _ hb)) _ rfl HK.out ?_
       intro ob hM1
       obtain ⟨W1, hW1⟩ : ∃ W1, W1 = setBlock (w.alloc (.cells #[.int .i64 (be k), .int .i64 (af k)] 76)) b ob := ⟨_, rfl⟩
       have hT1 : TC W1 q f l (some b) := by
         rw [hW1]
         exact (setBlock_other _ _ _ (Ne.symm hbq)).trans ((Below.heap_alloc _ _ _ hq).trans HC.out)
       have hbx : W1.heap[w.heap.size]? = some (.cells #[.int .i64 (be k), .int .i64 (af k)] 76 (0, 0)) := by
         rw [hW1]
         exact (setBlock_other _ _ _ hnb).trans (heap_alloc_new w _)
       have d0 : W1.cell? ⟨w.heap.size, 0, none⟩ = some (.int .i64 (be k)) := by simp [World.cell?, hbx]
       have d1 : W1.cell? ⟨w.heap.size, 1, none⟩ = some (.int .i64 (af k)) := by simp [World.cell?, hbx]
       have HTo := hid (show Touch (fp q (some b)) w W1 by rw [hW1]; exact touch_setBlock ((Touch.refl _ _).alloc _) (by simp [fp]) ob)
       have hM1 : MapAt W1 b (xs.length - 1) (Ytmbjjkdocmcpdaa.del (lmap be af xs) k) := by
         have e := hM1
         rw [HA.out] at e
         rw [hW1]
         exact e
       rw [← hW1]
       have HT1 := hid hT1
       have HM1 := hid hM1
       have HBx := hid hbx
       have z0 := hT1.c0
       have z1 := hT1.c1
       have z2 := hT1.c2
       have y0 := hT1.fr 0
       have y1 := hT1.fr 1
       clear hW1 hT1 hM1 hbx c0 c1 c2)
    | (go_at_call 45
       refine (setAfter42 W1 q b (xs.length - 1) f l _ (be k) (be (be k)) (af (be k)) (af k) HT1.out HM1.out HB.out.1 (by simp only [Ytmbjjkdocmcpdaa.del]; rw [if_neg HB.out.2.2]; exact lmap_at HB.out.2.1) (maxLen_big (by omega))).mono ?_
       rintro e V ⟨rfl, hTV, hMV⟩
       have hT2 : TC V q f l (some b) := HT1.out.keep hTV (by simpa using Ne.symm hbq)
       have hbx2 : V.heap[w.heap.size]? = some (.cells #[.int .i64 (be k), .int .i64 (af k)] 76 (0, 0)) := hTV.keep HBx.out (by simpa using hnb)
       have d0' : V.cell? ⟨w.heap.size, 0, none⟩ = some (.int .i64 (be k)) := by simp [World.cell?, hbx2]
       have d1' : V.cell? ⟨w.heap.size, 1, none⟩ = some (.int .i64 (af k)) := by simp [World.cell?, hbx2]
       have HT2 := hid hT2
       have HM2 := hid hMV
       have HTo2 := hid (show Touch (fp q (some b)) w V from HTo.out.trans hTV (fun i hi => by simp only [List.mem_singleton] at hi; subst hi; simp [fp]))
       have x1 := hT2.c1
       have x2 := hT2.c2
       have xf1 := hT2.fr 1
       clear hTV hMV hT2 hbx2 d0 d1 z0 z1 z2)
    | fail)
  go_end0
  obtain ⟨h1, h2, h3, hch, hF, hL, hp⟩ := HX.out
  have hE := HE.out
  have hkk := HKK.out
  refine ⟨rfl, (HTo2.out.setCell (p := ⟨q, 1, none⟩) (by simp [fp]) _), nodup_eraseIdx h1 p, fun y hy => h2 y (List.mem_of_mem_eraseIdx hy), by have := HLen.out; omega, f, be k, (HT2.out.set1 (be k)), Or.inr ⟨b, beD l be af k, afD f be af k, rfl, ?_, ?_⟩⟩
  · rw [HLen.out]
    refine MapAt.congr (HM2.out.setCell (a := ⟨q, 1, none⟩) hbq (.int .i64 (be k))) (fun j _ => ?_)
    refine hE.2 _ (upd (Ytmbjjkdocmcpdaa.del (lmap be af xs) k) (be k) (lnk (be (be k)) (af k))) _ rfl (Or.inr ⟨hF, rfl⟩) (Or.inl ⟨hL, rfl⟩) j
  · have := hE.1
    rw [if_neg hF, if_pos hL] at this
    exact this

set_option maxHeartbeats 4000000 in
set_option maxRecDepth 100000 in
theorem unlink34_nn (w : World) (q b : Nat) (f l : Int) (be af : Int → Int) (xs : List Int) (p : Nat) (hp : p < xs.length) (h1 : xs.Nodup) (h2 : ∀ x ∈ xs, W64 x) (h3 : xs.length ≤ 65536) (hc : TC w q f l (some b)) (hm : MapAt w b xs.length (lmap be af xs)) (hch : Chn f l be af xs) (hF : xs[p] ≠ f) (hL : xs[p] ≠ l) :
    Calls Try.prog 41 #[P q, .int .i64 xs[p]] w fun e w' => e = .returned (.tuple #[]) ∧ Touch (fp q (some b)) w w' ∧ TQ w' q (some b) (xs.eraseIdx p) := by
  have hbq := hc.map_ne hm
  have hq := block_lt hc
  have hb := hm.lt
  have hne : w.heap.size ≠ q := by omega
  have hne' : q ≠ w.heap.size := by omega
  have hnb : w.heap.size ≠ b := by omega
  have hk : xs[p] ∈ xs := List.getElem_mem hp
  have HK := hid (h2 _ hk)
  have HA := hid (lmap_at (be := be) (af := af) hk)
  have HM := hid hm
  have HC := hid hc
  have HX := hid (And.intro h1 (And.intro h2 (And.intro h3 (And.intro hch (And.intro hF (And.intro hL hp))))))
  obtain ⟨hbm, hbk⟩ := chn_be hch h1 hp hF
  have HB := hid (And.intro (h2 _ hbm) (And.intro hbm hbk))
  obtain ⟨ham, hak⟩ := chn_af hch h1 hp hL
  have HAf := hid (And.intro (h2 _ ham) (And.intro ham hak))
  have HBA := hid (chn_ba hch h1 hp hF hL)
  have HE := hid (And.intro (chn_del hch h1 hp) (lmap_del hch h1 hp))
  have tf : (xs[p] == f) = false := by simp [hF]
  have tl : (xs[p] == l) = false := by simp [hL]
  have c0 := hc.c0
  have c1 := hc.c1
  have c2 := hc.c2
  have HLen := hid (List.length_eraseIdx_of_lt hp)
  clear hF hL hch h1 h2 hm hbm hbk ham hak hk hc
  generalize hkk : xs[p] = k at *
  have HKK := hid hkk
  clear hkk
  unfold P
  go_enter Try.func41, Try.ntmps41
  go_wp2_with (first
    | (at_lookup; refine wpList_mlook _ rfl _ _ 77 rfl 76 Try.underlying77 (zero79 _) b xs.length (lmap be af xs) rfl HM.out _ rfl HK.out (.agg #[.int .i64 (be k), .int .i64 (af k)]) (by rw [HA.out]; rfl) ?_)
    | (at_delete
       refine wpList_mdel _ rfl _ _ 77 rfl 76 Try.underlying77 b xs.length (lmap be af xs) rfl (HM.out.kept (Below.heap_alloc _ _ _ hb)) _ rfl HK.out ?_
       intro ob hM1
       obtain ⟨W1, hW1⟩ : ∃ W1, W1 = setBlock (w.alloc (.cells #[.int .i64 (be k), .int .i64 (af k)] 76)) b ob := ⟨_, rfl⟩
       have hT1 : TC W1 q f l (some b) := by
         rw [hW1]
         exact (setBlock_other _ _ _ (Ne.symm hbq)).trans ((Below.heap_alloc _ _ _ hq).trans HC.out)
       have hbx : W1.heap[w.heap.size]? = some (.cells #[.int .i64 (be k), .int .i64 (af k)] 76 (0, 0)) := by
         rw [hW1]
         exact (setBlock_other _ _ _ hnb).trans (heap_alloc_new w _)
       have d0 : W1.cell? ⟨w.heap.size, 0, none⟩ = some (.int .i64 (be k)) := by simp [World.cell?, hbx]
       have d1 : W1.cell? ⟨w.heap.size, 1, none⟩ = some (.int .i64 (af k)) := by simp [World.cell?, hbx]
       have HTo := hid (show Touch (fp q (some b)) w W1 by rw [hW1]; exact touch_setBlock ((Touch.refl _ _).alloc _) (by simp [fp]) ob)
       have hM1 : MapAt W1 b (xs.length - 1) (Ytmbjjkdocmcpdaa.del (lmap be af xs) k) := by
         have e := hM1
         rw [HA.out] at e
         rw [hW1]
         exact e
       rw [← hW1]
       have HT1 := hid hT1
       have HM1 := hid hM1
       have HBx := hid hbx
       have z0 := hT1.c0
       have z1 := hT1.c1
       have z2 := hT1.c2
       have y0 := hT1.fr 0
       have y1 := hT1.fr 1
       clear hW1 hT1 hM1 hbx c0 c1 c2)
    | (go_at_call 45
       refine (setAfter42 W1 q b (xs.length - 1) f l _ (be k) (be (be k)) (af (be k)) (af k) HT1.out HM1.out HB.out.1 (by simp only [Ytmbjjkdocmcpdaa.del]; rw [if_neg HB.out.2.2]; exact lmap_at HB.out.2.1) (maxLen_big (by omega))).mono ?_
       rintro e V ⟨rfl, hTV, hMV⟩
       have hT2 : TC V q f l (some b) := HT1.out.keep hTV (by simpa using Ne.symm hbq)
       have hbx2 : V.heap[w.heap.size]? = some (.cells #[.int .i64 (be k), .int .i64 (af k)] 76 (0, 0)) := hTV.keep HBx.out (by simpa using hnb)
       have d0' : V.cell? ⟨w.heap.size, 0, none⟩ = some (.int .i64 (be k)) := by simp [World.cell?, hbx2]
       have d1' : V.cell? ⟨w.heap.size, 1, none⟩ = some (.int .i64 (af k)) := by simp [World.cell?, hbx2]
       have HT2 := hid hT2
       have HM2 := hid hMV
       have HTo2 := hid (show Touch (fp q (some b)) w V from HTo.out.trans hTV (fun i hi => by simp only [List.mem_singleton] at hi; subst hi; simp [fp]))
       have x1 := hT2.c1
       have x2 := hT2.c2
       have xf1 := hT2.fr 1
       clear hTV hMV hT2 hbx2 d0 d1 z0 z1 z2)
    | (go_at_call 46
       refine (setBefore43 V q b (xs.length - 1) f l _ (af k) (be (af k)) (af (af k)) (be k) HT2.out HM2.out HAf.out.1 (by simp only [upd]; rw [if_neg (Ne.symm HBA.out)]; simp only [Ytmbjjkdocmcpdaa.del]; rw [if_neg HAf.out.2.2]; exact lmap_at HAf.out.2.1) (maxLen_big (by omega))).mono ?_
       rintro e U ⟨rfl, hTU, hMU⟩)
    | fail)
  go_end0
  obtain ⟨h1, h2, h3, hch, hF, hL, hp⟩ := HX.out
  have hE := HE.out
  have hkk := HKK.out
  refine ⟨rfl, (HTo2.out.trans hTU (fun i hi => by simp only [List.mem_singleton] at hi; subst hi; simp [fp])), nodup_eraseIdx h1 p, fun y hy => h2 y (List.mem_of_mem_eraseIdx hy), by have := HLen.out; omega, f, l, (HT2.out.keep hTU (by simpa using Ne.symm hbq)), Or.inr ⟨b, beD l be af k, afD f be af k, rfl, ?_, ?_⟩⟩
  · rw [HLen.out]
    refine MapAt.congr hMU (fun j _ => ?_)
    refine hE.2 _ (upd (Ytmbjjkdocmcpdaa.del (lmap be af xs) k) (be k) (lnk (be (be k)) (af k))) _ rfl (Or.inr ⟨hF, rfl⟩) (Or.inr ⟨hL, ?_⟩) j
    rw [show afD f be af k (af k) = af (af k) by simp [afD, Ne.symm HBA.out]]
  · have := hE.1
    rw [if_neg hF, if_neg hL] at this
    exact this

theorem unlink34 (w : World) (q : Nat) (m : Option Nat) (xs : List Int) (p : Nat) (hp : p < xs.length) (h : TQ w q m xs) :
    Calls Try.prog 41 #[P q, .int .i64 xs[p]] w fun e w' => e = .returned (.tuple #[]) ∧ Touch (fp q m) w w' ∧ TQ w' q m (xs.eraseIdx p) := by
  obtain ⟨h1, h2, h3, f, l, hc, hs⟩ := h
  rcases hs with ⟨_, rfl⟩ | ⟨b, be, af, rfl, hm, hch⟩
  · simp at hp
  · by_cases hF : xs[p] = f
    · by_cases hL : xs[p] = l
      · exact unlink34_fl w q b f l be af xs p hp h1 h2 h3 hc hm hch hF hL
      · exact unlink34_fn w q b f l be af xs p hp h1 h2 h3 hc hm hch hF hL
    · by_cases hL : xs[p] = l
      · exact unlink34_nl w q b f l be af xs p hp h1 h2 h3 hc hm hch hF hL
      · exact unlink34_nn w q b f l be af xs p hp h1 h2 h3 hc hm hch hF hL
end Go.Proofs.Ytmbjjkdocmcpdaa
