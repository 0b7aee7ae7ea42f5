/- The contracts of container/heap's Push and Remove at a queue by time, and of takeOut. -/
import Derived.Test.YtaioegefoiabhaaPsh
namespace Go.Proofs.Ytaioegefoiabhaa
open Go.RowKit Go.Maps Go.ChangeMaps
set_option linter.unusedVariables false
theorem push89 (w : World) (q : Nat) (sl : Value) (m : Option Nat) (p : Int) (s : List Slot) (x : Slot) (h : HQ w q sl m p s) (hl : s.length < 65536) (hx : ∀ y ∈ s, y.item ≠ x.item) (hxw : W64 x.at_ ∧ W64 x.put ∧ W64 x.item) :
    Calls Try.prog 89 #[PT q, .iface 86 (sv x)] w fun e w' => e = .returned (.tuple #[]) ∧ ∃ sl' b', HQ w' q sl' (some b') p (s ++ [x]) ∧ Touch (fq q sl m) w w' ∧ Nq w q sl m sl' (some b') := by
  rcases h.mp with ⟨rfl, rfl⟩ | ⟨b, rfl, _⟩
  · exact push89_none w q sl p x h hxw
  · refine (push89_some w q b sl p s x h hl hx hxw).mono ?_
    rintro e w' ⟨he, sl', h1, h2, h3⟩
    exact ⟨he, sl', b, h1, h2, h3⟩
theorem Nq.touch {w w1 w2 : World} {q : Nat} {sl sl' : Value} {m m' : Option Nat} (h : Nq w q sl m sl' m') (t1 : Touch (fq q sl m) w w1) (t2 : Touch (fq q sl' m') w1 w2) : Touch (fq q sl m) w w2 := t1.trans t2 h
theorem Nq.trans {w w1 : World} {q : Nat} {sl sl' sl'' : Value} {m m' m'' : Option Nat} (h : Nq w q sl m sl' m') (k : Nq w1 q sl' m' sl'' m'') (hz : w.heap.size ≤ w1.heap.size) : Nq w q sl m sl'' m'' := fun i hi => by
  rcases k i hi with e | e
  · exact h i e
  · exact Or.inr (Nat.le_trans hz e)
theorem Nq.refl (w : World) (q : Nat) (sl : Value) (m : Option Nat) : Nq w q sl m sl m := fun _ h => Or.inl h
set_option maxHeartbeats 2000000 in
set_option maxRecDepth 100000 in
theorem hpush38 (w : World) (q : Nat) (sl : Value) (m : Option Nat) (p : Int) (s : List Slot) (x : Slot) (h : HQ w q sl m p s) (hh : Heap s.length s) (hl : s.length < 65536) (hx : ∀ y ∈ s, y.item ≠ x.item) (hxw : W64 x.at_ ∧ W64 x.put ∧ W64 x.item) :
    Calls Try.prog 41 #[IF q, .iface 86 (sv x)] w fun e w' => e = .returned (.tuple #[]) ∧ ∃ sl' b' s', s'.Perm (s ++ [x]) ∧ Heap s'.length s' ∧ HQ w' q sl' (some b') p s' ∧ Touch (fq q sl m) w w' ∧ Nq w q sl m sl' (some b') := by
  have HP := hid (push89 w q sl m p s x h hl hx hxw)
  obtain ⟨n, hn⟩ : ∃ n, n = (s ++ [x]).length := ⟨_, rfl⟩
  have e1 : (n : Int) - 1 = (s.length : Int) := by rw [hn]; simp
  have z1 : (n : Int) ≤ 65536 := by rw [hn]; simp; omega
  have z2 : (1 : Int) ≤ (n : Int) := by rw [hn]; simp; omega
  have HL : Hid (∀ w1 sl1 b1, HQ w1 q sl1 (some b1) p (s ++ [x]) → Calls Try.prog 86 #[.pointer (some ⟨q, 0, none⟩)] w1 fun e w' => e = .returned (.int .i64 n) ∧ w' = w1) := fun w1 sl1 b1 k => by
    rw [hn]; exact len86 w1 q sl1 (some b1) p _ k
  have HU : Hid (∀ w1 sl1 b1, HQ w1 q sl1 (some b1) p (s ++ [x]) → Touch (fq q sl m) w w1 → Nq w q sl m sl1 (some b1) → Calls Try.prog 49 #[.iface 90 (.pointer (some ⟨q, 0, none⟩)), .int .i64 s.length] w1 fun e w' => e = .returned (.tuple #[]) ∧ ∃ sl' b' s', s'.Perm (s ++ [x]) ∧ Heap s'.length s' ∧ HQ w' q sl' (some b') p s' ∧ Touch (fq q sl m) w w' ∧ Nq w q sl m sl' (some b')) := fun w1 sl1 b1 k t1 n1 => by
    refine (up45 w1 q b1 sl1 p (s ++ [x]) (s ++ [x]).length s.length (by simp) (Nat.le_refl _) k (heap_snoc hh)).mono ?_
    rintro e w2 ⟨he, s', p1, _, p3, p4, p5⟩
    exact ⟨he, sl1, b1, s', p1, by rw [p1.length_eq]; exact p3, p5, n1.touch t1 p4, n1⟩
  have mL := mLen q
  have mP := mPush q
  clear h hh hx hxw hn
  generalize s ++ [x] = T at *
  generalize s.length = j at *
  unfold IF PT at *
  go_enter Try.func41, Try.ntmps41
  go_wp2_with (first
    | (go_at_call 89; refine HP.out.mono ?_; rintro e w1 ⟨rfl, sl1, b1, q1, t1, n1⟩; have Q1 := hid q1; have T1 := hid t1; have N1 := hid n1; clear q1 t1 n1)
    | (go_at_call 86; refine (HL.out _ _ _ Q1.out).mono ?_; rintro e w2 ⟨rfl, rfl⟩)
    | (go_at_call 49; refine (HU.out _ _ _ Q1.out T1.out N1.out).mono ?_; rintro e w3 ⟨rfl, r⟩; have R := hid r; clear r))
  go_end0
  exact ⟨rfl, R.out⟩
/-- What Remove leaves: the slot is out of the row, the map has it still. -/
def RmP (w w' : World) (q b : Nat) (sl : Value) (p : Int) (s : List Slot) (i : Nat) : Prop :=
  ∃ sl' s', (s' ++ [gt s i]).Perm s ∧ Heap s'.length s' ∧ Out w' q sl' b p s' (gt s i) ∧ Touch (fq q sl (some b)) w w' ∧ Nq w q sl (some b) sl' (some b)
theorem last_split {s : List Slot} {n : Nat} (h : s.length = n + 1) : s = s.dropLast ++ [gt s n] := by
  have hne : s ≠ [] := fun e => by rw [e] at h; simp at h
  have := (List.dropLast_concat_getLast hne).symm
  rw [List.getLast_eq_getElem] at this
  rw [gt_eq (by omega)]
  simpa [h] using this
theorem RmP.of_pop {w w1 : World} {q b : Nat} {sl : Value} {p : Int} {s t : List Slot} {i n : Nat} (hn : s.length = n + 1) (hi : i < s.length) (hp : t.Perm s) (hl : gt t n = gt s i) (hh : Heap n t) (ht : Touch (fq q sl (some b)) w w1) (hq : HQ w1 q sl (some b) p t) :
    Calls Try.prog 88 #[.pointer (some ⟨q, 0, none⟩)] w1 fun e w' => e = .returned (.iface 86 (sv (gt s i))) ∧ RmP w w' q b sl p s i := by
  have htl : t.length = n + 1 := by rw [hp.length_eq]; exact hn
  have hsp := last_split htl
  rw [hl] at hsp
  rw [hsp] at hq
  refine (pop88 w1 q b sl p _ _ hq).mono ?_
  rintro e w2 ⟨he, sl', o, t2, n2⟩
  refine ⟨he, sl', _, ?_, ?_, o, ht.trans' t2, fun k hk => ?_⟩
  · rw [← hsp]; exact hp
  · refine heap_dropLast ?_
    rw [htl]
    exact hh
  · rcases n2 k hk with e | e
    · exact Or.inl e
    · exact Or.inr (Nat.le_trans ht.size e)
set_option maxHeartbeats 2000000 in
set_option maxRecDepth 100000 in
theorem remove44_last (w : World) (q b : Nat) (sl : Value) (p : Int) (s : List Slot) (n : Nat) (hn : s.length = n + 1) (h : HQ w q sl (some b) p s) (hh : Heap s.length s) :
    Calls Try.prog 50 #[IF q, .int .i64 n] w fun e w' => e = .returned (.iface 86 (sv (gt s n))) ∧ RmP w w' q b sl p s n := by
  have HL : Hid (Calls Try.prog 86 #[.pointer (some ⟨q, 0, none⟩)] w fun e w' => e = .returned (.int .i64 ((n : Int) + 1)) ∧ w' = w) := by
    apply hid
    have := len86 w q sl (some b) p s h
    rw [hn] at this
    simpa [PT] using this
  have HP := hid (RmP.of_pop hn (i := n) (by omega) (List.Perm.refl s) rfl (heap_mono hh (by omega)) (Touch.refl _ w) h)
  have hle := h.le
  have zn : (n : Int) < 65536 := by omega
  have mL := mLen q
  have mP := mPop q
  clear h hh hn hle
  generalize gt s n = x at *
  unfold IF
  go_enter Try.func50, Try.ntmps50
  go_wp2_with (first
    | (go_at_call 86; refine HL.out.mono ?_; rintro e w2 ⟨rfl, rfl⟩)
    | (go_at_call 88; refine HP.out.mono ?_; rintro e w3 ⟨rfl, r⟩; have R := hid r; clear r))
  go_ret
  exact ⟨rfl, R.out⟩
set_option maxHeartbeats 2000000 in
set_option maxRecDepth 100000 in
theorem remove44_mid (w : World) (q b : Nat) (sl : Value) (p : Int) (s : List Slot) (n i : Nat) (hn : s.length = n + 1) (hi : i < n) (h : HQ w q sl (some b) p s) (hh : Heap s.length s) :
    Calls Try.prog 50 #[IF q, .int .i64 i] w fun e w' => e = .returned (.iface 86 (sv (gt s i))) ∧ RmP w w' q b sl p s i := by
  have HL : Hid (Calls Try.prog 86 #[.pointer (some ⟨q, 0, none⟩)] w fun e w' => e = .returned (.int .i64 ((n : Int) + 1)) ∧ w' = w) := by
    apply hid
    have := len86 w q sl (some b) p s h
    rw [hn] at this
    simpa [PT] using this
  have HS := hid (swap90 w q b sl p s i n (by omega) (by omega) (by omega) h)
  have hsl : gt (swp s i n) n = gt s i := by rw [swp_gt (by omega) (by omega), if_pos rfl]
  have HD : Hid (∀ w1, Touch (fq q sl (some b)) w w1 → HQ w1 q sl (some b) p (swp s i n) → Calls Try.prog 63 #[.iface 90 (.pointer (some ⟨q, 0, none⟩)), .int .i64 i, .int .i64 n] w1 fun e w' => DnQ e w1 w' q b sl p (swp s i n) n i) := fun w1 t1 k =>
    down51 w1 q b sl p (swp s i n) n i hi (by rw [swp_len]; omega) k (heap_hole (n := n) (by rw [hn] at hh; exact hh) (by omega) hi)
  have HU : Hid (∀ w1 w2, Touch (fq q sl (some b)) w w1 → DnP w1 w2 q b sl p (swp s i n) n i false → Calls Try.prog 49 #[.iface 90 (.pointer (some ⟨q, 0, none⟩)), .int .i64 i] w2 fun e w' => e = .returned (.tuple #[]) ∧ DnP w w' q b sl p (swp s i n) n i true) := fun w1 w2 t1 k => by
    obtain ⟨t, r1, r2, r3, r4, r5, r6⟩ := k
    refine (up45 w2 q b sl p t n i hi (by have := r1.length_eq; rw [swp_len] at this; omega) r6 (r4 rfl)).mono ?_
    rintro e w3 ⟨he, s', p1, p2, p3, p4, p5⟩
    exact ⟨he, s', p1.trans r1, fun k hk => (p2 k hk).trans (r2 k hk), fun _ => p3, fun e => (by cases e), (t1.trans' r5).trans' p4, p5⟩
  have HC : Hid (∀ w1 w2, Touch (fq q sl (some b)) w w1 → DnP w1 w2 q b sl p (swp s i n) n i true → DnP w w2 q b sl p (swp s i n) n i true) := fun w1 w2 t1 k => by
    obtain ⟨t, r1, r2, r3, r4, r5, r6⟩ := k
    exact ⟨t, r1, r2, r3, r4, t1.trans' r5, r6⟩
  have HP : Hid (∀ w1, DnP w w1 q b sl p (swp s i n) n i true → Calls Try.prog 88 #[.pointer (some ⟨q, 0, none⟩)] w1 fun e w' => e = .returned (.iface 86 (sv (gt s i))) ∧ RmP w w' q b sl p s i) := fun w1 k => by
    obtain ⟨t, r1, r2, r3, r4, r5, r6⟩ := k
    exact RmP.of_pop hn (by omega) (r1.trans (swp_perm (by omega) (by omega))) ((r2 n (Nat.le_refl _)).trans hsl) (r3 rfl) r5 r6
  have hle := h.le
  have zn : (n : Int) < 65536 := by omega
  have zi : (i : Int) < (n : Int) := by omega
  have zne : ((n : Int) != (i : Int)) = true := by simp; omega
  have mL := mLen q
  have mP := mPop q
  have mS := mSwap q
  clear h hh hn hle hsl
  generalize gt s i = x at *
  generalize swp s i n = S1 at *
  unfold IF
  unfold PT at HS
  go_enter Try.func50, Try.ntmps50
  go_wp2_with (first
    | (go_at_call 86; refine HL.out.mono ?_; rintro e w2 ⟨rfl, rfl⟩)
    | (go_at_call 90; refine HS.out.mono ?_; rintro e w3 ⟨rfl, t3, q3⟩; have T3 := hid t3; have Q3 := hid q3; clear t3 q3))
  refine (HD.out _ T3.out Q3.out).mono ?_
  rintro e w4 ⟨B, rfl, d⟩
  cases B with
  | true =>
    have D := hid (HC.out _ _ T3.out d)
    clear d
    go_wp2_with (go_at_call 88; refine (HP.out _ D.out).mono ?_; rintro e w5 ⟨rfl, r⟩; have R := hid r; clear r)
    go_ret
    exact ⟨rfl, R.out⟩
  | false =>
    have D := hid d
    clear d
    go_wp2_with (first
      | (go_at_call 49; refine (HU.out _ _ T3.out D.out).mono ?_; rintro e w5 ⟨rfl, d5⟩; have D5 := hid d5; clear d5)
      | (go_at_call 88; refine (HP.out _ D5.out).mono ?_; rintro e w6 ⟨rfl, r⟩; have R := hid r; clear r))
    go_ret
    exact ⟨rfl, R.out⟩
theorem remove44 (w : World) (q b : Nat) (sl : Value) (p : Int) (s : List Slot) (i : Nat) (hi : i < s.length) (h : HQ w q sl (some b) p s) (hh : Heap s.length s) :
    Calls Try.prog 50 #[IF q, .int .i64 i] w fun e w' => e = .returned (.iface 86 (sv (gt s i))) ∧ RmP w w' q b sl p s i := by
  obtain ⟨n, hn⟩ : ∃ n, s.length = n + 1 := ⟨s.length - 1, by omega⟩
  by_cases e : i = n
  · subst e
    exact remove44_last w q b sl p s i hn h hh
  · exact remove44_mid w q b sl p s n i hn (by omega) h hh
theorem pmap_del {s : List Slot} {x : Slot} (h : Nd (s ++ [x])) (k : Int) : del (pmap (s ++ [x])) x.item k = pmap s k := by
  have hx : ∀ y ∈ s, y.item ≠ x.item := fun y hy e => by
    unfold Nd at h
    rw [List.map_append, List.nodup_append] at h
    exact h.2.2 y.item (List.mem_map.2 ⟨y, hy, rfl⟩) x.item (by simp) e
  rw [show del (pmap (s ++ [x])) x.item k = if k = x.item then none else pmap (s ++ [x]) k from rfl, ← pmap_snoc hx]
  unfold upd
  by_cases e : k = x.item
  · rw [if_pos e, e]
    unfold pmap
    rw [idx_none.2 hx]
    rfl
  · rw [if_neg e, if_neg e]
theorem Out.done {w V : World} {q b : Nat} {sl : Value} {p : Int} {s : List Slot} {x : Slot} (h : Out w q sl b p s x) (ht : Touch [] w V) :
    ∃ W, (Builtin.delete_ #[79, 3] 0 #[.map (some b), .int .i64 x.item]).run Try.prog V.drew = .ok (.tuple #[]) W ∧ HQ W q sl (some b) p s ∧ Touch [b] V W := by
  have hm : MapAt V b (s.length + 1) (pmap (s ++ [x])) := h.mp.kept (ht.block b h.mp.lt (by simp))
  have hC : HC V q sl (some b) p := h.hc.keep (ht.block q (block_lt h.hc) (by simp))
  have hR : V.ownsRow 0 86 3 sl s.length (flat s) := own_touch h.row ht (fun _ _ e => by cases e)
  have hwx := (h.wf x (by simp)).2.2
  obtain ⟨o, hu, hm2⟩ := (show MapAt V.drew b (s.length + 1) (pmap (s ++ [x])) from hm.kept rfl).del (t := 79) Try.underlying79 hwx 0
  have T : Touch [b] V (setBlock V.drew b o) := touch_setBlock (Touch.refl _ _).drew (by simp) o
  have hbq := hC.map_ne hm
  have nd' : Nd s := by have := h.nd; unfold Nd at this ⊢; rw [List.map_append, List.nodup_append] at this; exact this.1
  refine ⟨_, hu, ⟨hC.keep (T.block q (block_lt hC) (by simpa using Ne.symm hbq)), own_touch hR T (fun k hk => by simpa using row_nm hR hm k hk), Or.inr ⟨b, rfl, ?_⟩, nd', fun y hy => h.wf y (by simp [hy]), Nat.le_of_lt h.le⟩, T⟩
  have e : (pmap (s ++ [x]) x.item).isSome = true := by
    have := pmap_at h.nd (i := s.length) (by simp)
    rw [gt_eq (by simp)] at this
    simp at this
    rw [this]; rfl
  exact (hm2.congr (fun k _ => pmap_del h.nd k)).same (by rw [e]; rfl)
set_option maxHeartbeats 2000000 in
set_option maxRecDepth 100000 in
theorem takeOut36 (w : World) (q b : Nat) (sl : Value) (p : Int) (s : List Slot) (i : Nat) (hi : i < s.length) (h : HQ w q sl (some b) p s) (hh : Heap s.length s) :
    Calls Try.prog 43 #[PT q, .int .i64 i] w fun e w' => e = .returned (.tuple #[]) ∧ ∃ sl' s', (s' ++ [gt s i]).Perm s ∧ Heap s'.length s' ∧ HQ w' q sl' (some b) p s' ∧ Touch (fq q sl (some b)) w w' ∧ Nq w q sl (some b) sl' (some b) := by
  have HR := hid (remove44 w q b sl p s i hi h hh)
  have h77 := assert77
  clear h hh hi
  obtain ⟨x, hx⟩ : ∃ x, x = gt s i := ⟨_, rfl⟩
  rw [← hx] at HR
  rw [← hx]
  have HX := hid hx
  clear hx
  unfold PT
  unfold IF sv at HR
  go_enter Try.func43, Try.ntmps43
  go_wp2_with (go_at_call 50; refine HR.out.mono ?_; rintro e w1 ⟨rfl, r⟩; have R := hid r; clear r)
  obtain ⟨sl', s', r1, r2, r3, r4, r5⟩ := R.out
  rw [← HX.out] at r1 r3
  obtain ⟨V, hV⟩ : ∃ V, V = w1.alloc (.cells #[.int .i64 x.at_, .int .i64 x.put, .int .i64 x.item] 86) := ⟨_, rfl⟩
  have TV : Touch [] w1 V := by rw [hV]; exact (Touch.refl _ _).alloc _
  obtain ⟨W, hu, HQW, TW⟩ := r3.done TV
  have v1 : V.cell? ⟨q, 1, none⟩ = some (.map (some b)) := (r3.hc.keep (TV.block q (block_lt r3.hc) (by simp))).c1
  have v2 : V.cell? ⟨w1.heap.size, 2, none⟩ = some (.int .i64 x.item) := by rw [hV]; simp
  have HE := hid (show ∃ sl' s', (s' ++ [x]).Perm s ∧ Heap s'.length s' ∧ HQ W q sl' (some b) p s' ∧ Touch (fq q sl (some b)) w W ∧ Nq w q sl (some b) sl' (some b) from
    ⟨sl', s', r1, r2, HQW, (r4.trans' (TV.mono (fun _ e => by cases e))).trans' (TW.mono (by simp [fq])), r5⟩)
  rw [← hV]
  clear hV r1 r2 r3 r4 r5 TV TW HQW R HR HX
  go_region
  go_end0
  exact ⟨rfl, HE.out⟩
end Go.Proofs.Ytaioegefoiabhaa
