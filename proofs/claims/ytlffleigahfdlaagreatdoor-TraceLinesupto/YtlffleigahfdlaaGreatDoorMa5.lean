/- A generic replacer is built once, and replaces; no conditions but those that each states. -/
import Derived.Test.YtlffleigahfdlaaGreatDoorMa4
import Derived.Test.YtlffleigahfdlaaGreatDoorEpg
import Derived.Test.YtlffleigahfdlaaGreatDoorShx
namespace Go.Proofs.YtlffleigahfdlaaGreatDoor.Tr
open Go.RowKit Go.Sort Go.Shelf Go.Maps Go.ChangeMaps
set_option linter.unusedVariables false
set_option linter.unusedSimpArgs false
theorem mk294 (n : Nat) (hn : n ≤ 1099511627776) (w : World) : (Instr.makeSlice 294 (.int .i64 0) (.int .i64 (n : Int))).run Tryz.prog w = .ok (.slice (some ⟨w.heap.size, 0, none⟩) 0 n) (w.alloc (.cells (madeCells #[.int .u8 0] n) 5)) := by
  obtain ⟨i, hf, h0, h1, h2⟩ := info_parts info5
  have hr := run_make (P := Tryz.prog) w 294 5 i _ Tryz.underlying294 hf h0 .i64 .i64 0 (n : Int) (by omega) (by omega) (by rw [h2]; omega) (by omega)
  rw [h1, Int.toNat_natCast, Nat.mul_one] at hr
  exact hr
theorem wb_new (w : World) (n : Nat) (hn : n ≤ 1099511627776) : Wb w ((w.alloc (.cells (madeCells #[.int .u8 0] n) 5)).alloc (.cells #[.slice (some ⟨w.heap.size, 0, none⟩) 0 n] 294)) (w.heap.size + 1) [] := by
  have e1 : (w.alloc (.cells (madeCells #[.int .u8 0] n) 5)).heap.size = w.heap.size + 1 := by simp
  have h1 : ((w.alloc (.cells (madeCells #[.int .u8 0] n) 5)).alloc (.cells #[.slice (some ⟨w.heap.size, 0, none⟩) 0 n] 294)).heap[w.heap.size]? = some (.cells (madeCells #[.int .u8 0] n) 5 (0, 0)) :=
    ((Touch.refl [] _).alloc _).keep (heap_alloc_new w _) (by simp)
  have h2 := heap_alloc_new (w.alloc (.cells (madeCells #[.int .u8 0] n) 5)) (.cells #[.slice (some ⟨w.heap.size, 0, none⟩) 0 n] 294)
  rw [e1] at h2
  refine ⟨_, h2, ⟨⟨rfl, Or.inr ⟨w.heap.size, n, _, rfl, Nat.le_refl _, h1, Nat.zero_le _, by unfold maxLen; omega, by simp [madeCells], by simp [bcl]⟩⟩, ((Touch.refl [] w).alloc _).alloc _, by simp; omega, Nat.le_refl _⟩, by omega⟩
theorem wb_text {U w : World} {b : Nat} {L : List UInt8} (h : Wb U w b L) (hL : L ≠ []) : ∃ v, w.cell? ⟨b, 0, none⟩ = some v ∧ (convert 294 9 v).run Tryz.prog w = .ok (.string ⟨L.toArray⟩) w := by
  obtain ⟨v, h0, h1, h2⟩ := h
  obtain ⟨g, cp, hv, hg1, hg2⟩ := own_some h1.1 (List.length_pos_iff.2 hL)
  rw [hv] at h1
  refine ⟨v, cell_at h0 (j := 0) rfl, ?_⟩
  rw [hv]
  exact run_convert_bytes_back (P := Tryz.prog) w 294 9 5 ⟨g, 0, none⟩ cp L Tryz.underlying294 Tryz.underlying5 Tryz.underlying9 (fun j hj => by
    rw [show (⟨g, 0, none⟩ : Addr).add j = ⟨g, j, none⟩ by unfold Addr.add; split <;> simp_all]
    exact own_cell h1.1 (by unfold bcl; rw [List.getElem?_map, List.getElem?_eq_getElem hj]; rfl))
set_option maxHeartbeats 1000000 in
theorem replG_ {w : World} {r : Nat} (hT : Tri w r) (s : ByteArray) (hs : s.size ≤ 1099511627776) (hne : unF s.data.toList ≠ []) :
    Calls Tryz.prog 238 #[nP r, .string s] w fun e w' => e = .returned (.string ⟨(unF s.data.toList).toArray⟩) ∧ Touch [] w w' := by
  have hmk := mk294 s.size hs
  have HN := hid hne
  have HW := hid (writeG_ hT (wb_new w s.size hs) s hs)
  clear hs hne hT
  unfold nP at HW ⊢
  go_enter Tryz.func238, Tryz.ntmps238
  go_wp2_with fail
  refine (HW.out).mono ?_
  rintro e w2 ⟨n, rfl, h2⟩
  obtain ⟨v, c0, hcv⟩ := wb_text h2 HN.out
  have H2 := hid h2
  clear h2 HW
  go_wp2_with fail
  go_ret
  exact ⟨rfl, H2.out.tt⟩
set_option maxHeartbeats 1000000 in
theorem buildG_ {w : World} {b g m : Nat} (h4 : w.cell? ⟨b, 4, none⟩ = some (.slice (some ⟨g, 0, none⟩) 6 m)) (hm : 6 ≤ m) (hR : Six2 w g) :
    Calls Tryz.prog 166 #[PT b] w fun e w' => ∃ r, e = .returned (.iface 235 (PT r)) ∧ Tri w' r ∧ Touch [] w w' := by
  have c0 := hR.cell (j := 0) rfl
  have HM := hid (makeG_ hR hm)
  clear hR
  unfold PT
  unfold nP at HM
  go_enter Tryz.func166, Tryz.ntmps166
  go_wp2_with fail
  go_loopw [4, 5] (fun t i wr => i = .int .i64 0 ∧ t = .bool true ∧ wr = w) (fun _ i _ => 0)
  case atStart => exact ⟨rfl, rfl, rfl⟩
  case round =>
    obtain ⟨rfl, rfl, rfl⟩ := hrel
    go_wp2_with fail
    refine (HM.out).mono ?_
    rintro e w2 ⟨r, rfl, h2⟩
    have H2 := hid h2
    clear h2 HM
    go_wp2_with fail
    go_ret
    exact ⟨r, rfl, H2.out.1, H2.out.2⟩
theorem Tri.keep {w w' : World} {r b : Nat} {cs : Array Value} {z : Nat × Nat} (h : Tri w r) (hb : w.heap[b]? = some (.cells cs 193 z)) (T : Touch [b] w w') : Tri w' r := by
  obtain ⟨t0, n1, n2, m, k, k2, q2, G, h1, h2, h3, h4, h5, h6, h7, h8, h9⟩ := h
  have nr : ∀ (q : Nat) (bs : Array Value) (z' : Nat × Nat) (t : TypeId), w.heap[q]? = some (.cells bs t z') → t ≠ 193 → ¬ q ∈ [b] := fun q bs z' t hq ht e => by
    simp only [List.mem_singleton] at e
    subst e
    rw [hb] at hq
    cases hq
    exact ht rfl
  exact ⟨t0, n1, n2, m, k, k2, q2, G.keep T (by obtain ⟨cs, h0, _⟩ := G; exact nr _ _ _ _ h0 (by decide)), T.keep h1 (nr _ _ _ _ h1 (by decide)), h2.keep T (nr _ _ _ _ h2 (by decide)), T.keep h3 (nr _ _ _ _ h3 (by decide)), h4.keep T (nr _ _ _ _ h4 (by decide)), T.keep h5 (nr _ _ _ _ h5 (by decide)), h6.keep T (nr _ _ _ _ h6 (by decide)), h7.keep T (nr _ _ _ _ h7 (by decide)), h8.keep T (nr _ _ _ _ h8 (by decide)), h9.keep T (nr _ _ _ _ h9 (by decide))⟩
set_option maxRecDepth 100000 in
theorem buildOnceG_ {w : World} {b g m : Nat} {d mu : Int} (hb : w.heap[b]? = some (.cells (rcs d mu .nilIface (.slice (some ⟨g, 0, none⟩) 6 m)) 193 (0, 0))) (hm : 6 ≤ m) (hR : Six2 w g) :
    Calls Tryz.prog 136 #[PT b] w fun e w2 => e = .returned (.tuple #[]) ∧ ∃ r, w2.heap[b]? = some (.cells (rcs d mu (.iface 235 (PT r)) (.slice none 0 0)) 193 (0, 0)) ∧ Tri w2 r ∧ Touch [b] w w2 := by
  have HB : Hid _ := buildG_ (cell_at hb (j := 4) rfl) hm hR
  have Hb := hid hb
  have fz := froz_at hb
  unfold PT at HB ⊢
  go_enter Tryz.func136, Tryz.ntmps136
  go_wp2_with fail
  refine Calls.mono HB.out ?_
  rintro e w2 ⟨r, rfl, q1, q2⟩
  have hb2 := q2.keep Hb.out (by simp)
  have c3 := cell_at hb2 (j := 3) rfl
  have c4 := cell_at hb2 (j := 4) rfl
  have fz2 := froz_at hb2
  have H2 := hid (And.intro q1 (And.intro q2 hb2))
  clear q1 q2 hb2 fz hb
  go_wp2_with fail
  go_end0
  have T : Touch [b] w2 ((w2.setCell ⟨b, 3, none⟩ (.iface 235 (PT r))).setCell ⟨b, 4, none⟩ (.slice none 0 0)) := ((Touch.refl [b] w2).setCell (Or.inl (by simp)) _).setCell (Or.inl (by simp)) _
  refine ⟨rfl, r, ?_, H2.out.1.keep H2.out.2.2 T, (H2.out.2.1.mono (fun k hk => by simp at hk)).trans' T⟩
  exact bset (bset H2.out.2.2 (i := 3) (.iface 235 (PT r))) (i := 4) (.slice none 0 0)
/-- Do of a replacer that is new: it is built. -/
theorem doBuildG_ {w : World} {b g m : Nat} (hb : w.heap[b]? = some (.cells (rcs 0 0 .nilIface (.slice (some ⟨g, 0, none⟩) 6 m)) 193 (0, 0))) (hm : 6 ≤ m) (hR : Six2 w g) :
    Calls Tryz.prog 135 #[PT b, .func (.func 136) #[PT b] #[]] w fun e w' => e = .returned (.tuple #[]) ∧ ∃ r, w'.heap[b]? = some (.cells (rcs 1 0 (.iface 235 (PT r)) (.slice none 0 0)) 193 (0, 0)) ∧ Tri w' r ∧ Touch [b] w w' := by
  have h1 : (w.setCell ⟨b, 1, none⟩ (.int .i32 1)).heap[b]? = some (.cells (rcs 0 1 .nilIface (.slice (some ⟨g, 0, none⟩) 6 m)) 193 (0, 0)) := bset hb (i := 1) (.int .i32 1)
  have t1 : Touch [b] w (w.setCell ⟨b, 1, none⟩ (.int .i32 1)) := (Touch.refl [b] w).setCell (Or.inl (by simp)) _
  have hgb : ¬ g ∈ [b] := by
    intro e
    obtain ⟨cs, z, h, _⟩ := hR
    simp at e
    subst e
    rw [hb] at h
    simp at h
  refine (do_ (b := b) (w := w) (fun w2 => ∃ r, w2.heap[b]? = some (.cells (rcs 0 1 (.iface 235 (PT r)) (.slice none 0 0)) 193 (0, 0)) ∧ Tri w2 r ∧ Touch [b] w w2) (cell_at hb (j := 0) rfl) (cell_at hb (j := 1) rfl) (froz_at hb 0) (froz_at hb 1) ?_).mono ?_
  · refine (buildOnceG_ h1 hm (hR.keep t1 hgb)).mono ?_
    rintro e w2 ⟨rfl, r, q1, q2, q3⟩
    exact ⟨rfl, cell_at q1 (j := 0) rfl, cell_at q1 (j := 1) rfl, froz_at q1 0, froz_at q1 1, r, q1, q2, t1.trans' q3⟩
  · rintro e w' ⟨rfl, w2, ⟨r, q1, q2, q3⟩, rfl⟩
    have q1' : w2.drew.heap[b]? = some (.cells (rcs 0 1 (.iface 235 (PT r)) (.slice none 0 0)) 193 (0, 0)) := q1
    have T : Touch [b] w2 ((w2.drew.setCell ⟨b, 0, none⟩ (.int .u32 1)).setCell ⟨b, 1, none⟩ (.int .i32 0)) := (((Touch.refl [b] w2).drew).setCell (Or.inl (by simp)) _).setCell (Or.inl (by simp)) _
    refine ⟨rfl, r, ?_, q2.keep q1 T, q3.trans' T⟩
    exact bset (bset q1' (i := 0) (.int .u32 1)) (i := 1) (.int .i32 0)
theorem six2_own {w : World} {B h c : Nat} (o : w.ownsRow B 9 1 (.slice (some ⟨h, 0, none⟩) 6 c) 6 six2) : Six2 w h ∧ 6 ≤ c := by
  obtain ⟨h1, a, c', e, h2, h3, h4⟩ := Rs.of_own o
  cases e
  obtain ⟨g, off, e, cs, z, h5, h6⟩ := h4 (by omega)
  rcases o with ⟨_, ⟨e1, _⟩ | ⟨g', cap, cur, e1, hg, hc, hn, hm, hs, ht⟩⟩
  · cases e1
  · cases e1
    refine ⟨⟨cur, _, hc, fun j u hu => ?_⟩, h2⟩
    have hj := (List.getElem?_eq_some_iff.1 hu).1
    rw [← Array.getElem?_toList, ← hu, ← ht, List.getElem?_take, if_pos (by simp [six2] at hj; omega)]
/-- A replacer that is made. -/
theorem newRepG_ {w : World} {g : Nat} (hR : Six2 w g) :
    Calls Tryz.prog 104 #[.slice (some ⟨g, 0, none⟩) 6 6] w fun e w' => ∃ b h m, e = .returned (PT b) ∧ w.heap.size ≤ b ∧ w'.heap[b]? = some (.cells (rcs 0 0 .nilIface (.slice (some ⟨h, 0, none⟩) 6 m)) 193 (0, 0)) ∧ 6 ≤ m ∧ Six2 w' h ∧ Touch [] w w' := by
  have HR : Hid (Rs 9 1 w (.slice (some ⟨g, 0, none⟩) 6 6) 6 six2) := hid (by
    obtain ⟨cs, z, h1, h2⟩ := hR
    exact ⟨rfl, _, _, rfl, Nat.le_refl _, fun e => (by cases e), fun _ => ⟨g, 0, rfl, cs, z, h1, fun j u hu => by rw [Nat.zero_add]; exact h2 j u hu⟩⟩)
  go_enter Tryz.func104, Tryz.ntmps104
  go_wp2_with (at_builtin; go_must (refine wpList_append_rs rfl _ _ 178 9 rfl (.string ⟨#[]⟩) 1 16 info9 Tryz.underlying178 rfl (by decide) w.heap.size (.slice none 0 0) 0 [] rfl ⟨rfl, Or.inl ⟨rfl, rfl⟩⟩ _ 6 six2 rfl HR.out (by simp [six2]; decide) (by unfold maxLen; omega) (by omega) (Nat.le_refl _) ?_; intro v3 w3 o3 g3 b3; have H3 := hid (And.intro o3 g3); obtain ⟨h3, c3, rfl, k3, l3⟩ := own_some o3 (by omega); clear o3 g3 b3))
  obtain ⟨sx, h6⟩ := six2_own H3.out.1
  have T : Touch [] w w3 := (Touch.refl [] w).grown H3.out.2 (by simp [Value.ownBlock])
  go_ret
  exact ⟨_, h3, c3, rfl, T.size, heap_alloc_new w3 _, h6, sx.keep ((Touch.refl [] w3).alloc _) (by simp), T.alloc _⟩
set_option maxRecDepth 100000 in
set_option maxHeartbeats 1000000 in
/-- Replace of a replacer that is new. -/
theorem replaceG_ {w : World} {b g m : Nat} (hb : w.heap[b]? = some (.cells (rcs 0 0 .nilIface (.slice (some ⟨g, 0, none⟩) 6 m)) 193 (0, 0))) (hm : 6 ≤ m) (hR : Six2 w g) (s : ByteArray) (hs : s.size ≤ 1099511627776) (hne : unF s.data.toList ≠ []) :
    Calls Tryz.prog 105 #[PT b, .string s] w fun e w' => e = .returned (.string ⟨(unF s.data.toList).toArray⟩) ∧ Touch [b] w w' := by
  have HD : Hid _ := doBuildG_ hb hm hR
  have HS : Hid (∀ (w2 : World) (r : Nat), Tri w2 r → Calls Tryz.prog 238 #[nP r, .string s] w2 fun e w' => e = .returned (.string ⟨(unF s.data.toList).toArray⟩) ∧ Touch [] w2 w') := hid (fun w2 r h => replG_ h s hs hne)
  have hmf := makef Tryz.prog
  have Hb := hid hb
  clear hne
  unfold PT at HD ⊢
  unfold nP at HS
  go_enter Tryz.func105, Tryz.ntmps105
  go_wp2_with fail
  refine Calls.mono HD.out ?_
  rintro e w2 ⟨rfl, r, q1, q2, q3⟩
  have c3 : w2.cell? ⟨b, 3, none⟩ = some (.iface 235 (.pointer (some ⟨r, 0, none⟩))) := cell_at q1 (j := 3) rfl
  have H2 := hid (And.intro q2 q3)
  clear q1 q2 q3 hb
  go_wp2_with fail
  refine Calls.mono (HS.out w2 r H2.out.1) ?_
  rintro e w3 ⟨rfl, t3⟩
  have T := hid (H2.out.2.trans t3 (by simp))
  go_wp2_with fail
  go_ret
  exact ⟨rfl, T.out⟩
end Go.Proofs.YtlffleigahfdlaaGreatDoor.Tr
/- What was masked, read back; no conditions but those that each states. -/
namespace Go.Proofs.YtlffleigahfdlaaGreatDoor.Tr
open Go.RowKit Go.Sort Go.Shelf Go.Maps Go.ChangeMaps
set_option linter.unusedVariables false
set_option linter.unusedSimpArgs false
theorem unF_self : ∀ (l : List UInt8), ¬ (37 : UInt8) ∈ l → unF l = l
  | [], _ => rfl
  | a :: l, h => by
    simp only [List.mem_cons, not_or] at h
    rw [unF_no (lkL_first (fun e => h.1 e.symm)), unF_self l h.2]
theorem unF_ne {l : List UInt8} (h : l ≠ []) : unF l ≠ [] := by
  cases l with
  | nil => exact absurd rfl h
  | cons a l =>
    cases hk : lkL (a :: l) with
    | none => rw [unF_no hk]; simp
    | some x => rw [(unF_hit hk).1]; simp
def six2A : Array Value := #[.string ⟨#[37, 48, 97]⟩, .string ⟨#[10]⟩, .string ⟨#[37, 48, 100]⟩, .string ⟨#[13]⟩, .string ⟨#[37, 50, 53]⟩, .string ⟨#[37]⟩]
set_option maxRecDepth 100000 in
set_option maxHeartbeats 1000000 in
theorem unmasked_ {w : World} (s : ByteArray) (hs : s.size ≤ 1099511627776) :
    Calls Tryz.prog 89 #[.string s] w fun e w' => e = .returned (.string ⟨(unF s.data.toList).toArray⟩) ∧ Touch [] w w' := by
  have HC := hid (Tryz.strings_Contains_one s 37 w)
  have hnot : ∀ (x : Bool) (w : World), (Op.unary .not (.bool x)).run Tryz.prog w = .ok (.bool (!x)) w := fun _ _ => rfl
  have HN : Hid (∀ (w2 : World) (g : Nat), Six2 w2 g → Calls Tryz.prog 104 #[.slice (some ⟨g, 0, none⟩) 6 6] w2 fun e w' => ∃ b h m, e = .returned (PT b) ∧ w2.heap.size ≤ b ∧ w'.heap[b]? = some (.cells (rcs 0 0 .nilIface (.slice (some ⟨h, 0, none⟩) 6 m)) 193 (0, 0)) ∧ 6 ≤ m ∧ Six2 w' h ∧ Touch [] w2 w') := hid (fun w2 g h => newRepG_ h)
  obtain ⟨x, hx⟩ : ∃ x : Bool, decide (0 ≤ Lib.indexByte s.data.toList 37) = x := ⟨_, rfl⟩
  rw [hx] at HC
  go_enter Tryz.func89, Tryz.ntmps89
  go_wp2_with fail
  refine Calls.mono HC.out ?_
  rintro e w1 ⟨rfl, rfl⟩
  clear HC
  cases x with
  | false =>
    have hM : unF s.data.toList = s.data.toList := unF_self _ (fun hm => by
      have h1 := Lib.indexByte_ge s.data.toList 37
      have h2 : ¬ 0 ≤ Lib.indexByte s.data.toList 37 := by simpa using hx
      have h3 : Lib.indexByte s.data.toList 37 = -1 := by omega
      obtain ⟨k, hk⟩ := List.mem_iff_getElem?.1 hm
      exact Lib.indexByte_none h3 k hk)
    go_wp2_with fail
    go_ret
    exact ⟨by first | rfl | (rw [hM]; rfl), Touch.refl _ _⟩
  | true =>
    have hne : s.data.toList ≠ [] := fun e => by
      rw [e] at hx
      revert hx
      decide
    have H6 : Hid (Six2 (w1.alloc (.cells six2A 9)) w1.heap.size) := hid ⟨_, _, heap_alloc_new w1 _, fun j u hu => by
      rw [show six2A = six2.toArray from rfl]
      simpa using hu⟩
    have HN2 : Hid _ := hid (HN.out _ _ H6.out)
    have HP : Hid (∀ (w2 : World) (b g m : Nat), w2.heap[b]? = some (.cells (rcs 0 0 .nilIface (.slice (some ⟨g, 0, none⟩) 6 m)) 193 (0, 0)) → 6 ≤ m → Six2 w2 g → Calls Tryz.prog 105 #[PT b, .string s] w2 fun e w' => e = .returned (.string ⟨(unF s.data.toList).toArray⟩) ∧ Touch [b] w2 w') := hid (fun w2 b g m h1 h2 h3 => replaceG_ h1 h2 h3 s hs (unF_ne hne))
    clear hne hx HN H6
    unfold PT at HN2 HP
    unfold six2A at HN2
    go_wp2_with fail
    refine Calls.mono HN2.out ?_
    rintro e w2 ⟨b, h, m, rfl, q1, q2, q3, q4, q5⟩
    have HP2 := hid (HP.out _ _ _ _ q2 q3 q4)
    have H2 := hid (And.intro q1 q5)
    clear q1 q2 q3 q4 q5
    go_wp2_with fail
    refine Calls.mono HP2.out ?_
    rintro e w3 ⟨rfl, t3⟩
    have T : Hid (Touch [] w1 w3) := hid ((((Touch.refl [] w1).alloc (.cells six2A 9)).trans' H2.out.2).trans t3 (fun k hk => Or.inr (by
      have h2 := H2.out.1
      simp at hk h2
      omega)))
    clear t3
    go_wp2_with fail
    go_ret
    exact ⟨rfl, T.out⟩
end Go.Proofs.YtlffleigahfdlaaGreatDoor.Tr
