/- The contract of the document's Sweep; there are at most seventy thousand entries, each of which may be. -/
import Derived.Test.YtopepalpmkeffaaDkw
namespace Go.Proofs.Ytopepalpmkeffaa
open Go.RowKit Go.Sort Go.Maps Go.ChangeMaps Go.WideMaps
set_option linter.unusedVariables false
set_option linter.unusedSimpArgs false
def isOld (c : Cf) (now : Int) (x : En) : Bool := decide (howC c x.2.1 (now - x.2.2) = 3)
def swX (c : Cf) (now : Int) (xs : List En) : List En := xs.filter (fun x => !isOld c now x)
def swG (c : Cf) (now : Int) (xs : List En) : List K := (xs.filter (fun x => isOld c now x)).map Prod.fst
theorem sw_old {c : Cf} {now : Int} {xs : List En} {i : Nat} (h : i < xs.length) (ho : isOld c now xs[i] = true) : swX c now (xs.take (i + 1)) = swX c now (xs.take i) ∧ swG c now (xs.take (i + 1)) = swG c now (xs.take i) ++ [xs[i].1] := by
  rw [List.take_succ_eq_append_getElem h]
  unfold swX swG
  rw [List.filter_append, List.filter_append]
  simp [ho]
theorem sw_new {c : Cf} {now : Int} {xs : List En} {i : Nat} (h : i < xs.length) (ho : isOld c now xs[i] = false) : swX c now (xs.take (i + 1)) = swX c now (xs.take i) ++ [xs[i]] ∧ swG c now (xs.take (i + 1)) = swG c now (xs.take i) := by
  rw [List.take_succ_eq_append_getElem h]
  unfold swX swG
  rw [List.filter_append, List.filter_append]
  simp [ho]
def SwQ (w : World) (c : Cf) (now : Int) (xs : List En) (v1 v2 : Value) (w' : World) : Prop := RN 62 w' v1 (swX c now xs) ∧ RT 57 w' v2 (swG c now xs) ∧ Touch [] w w'
structure SwI (V : World) (c : Cf) (now : Int) (xs : List En) (v1 v2 : Value) (wr : World) : Prop where
  o1 : wr.ownsRow V.heap.size 62 7 v1 (swX c now xs).length (cellsN (swX c now xs))
  o2 : wr.ownsRow V.heap.size 57 2 v2 (swG c now xs).length (cellsK (swG c now xs))
  t : Touch [] V wr
theorem SwI.keep {V wr wr' : World} {c : Cf} {now : Int} {xs : List En} {v1 v2 : Value} (h : SwI V c now xs v1 v2 wr) (t : Touch [] wr wr') : SwI V c now xs v1 v2 wr' :=
  ⟨own_touch h.o1 t (fun _ _ e => by cases e), own_touch h.o2 t (fun _ _ e => by cases e), h.t.trans' t⟩
theorem SwI.ne {V wr : World} {c : Cf} {now : Int} {xs : List En} {v1 v2 : Value} (h : SwI V c now xs v1 v2 wr) : ∀ b, v1.ownBlock = some b → ¬ b ∈ v2.ownBlock.toList := fun b hb hh => by
  obtain ⟨cs, h1⟩ := own_kin h.o1 hb
  obtain ⟨cs', h2⟩ := own_kin h.o2 (show v2.ownBlock = some b by simpa using hh)
  rw [h1] at h2
  simp at h2
set_option maxHeartbeats 4000000 in
set_option maxRecDepth 100000 in
theorem rsweep36 (w : World) (c : Cf) (v : Value) (xs : List En) (now : Int) (hl : xs.length ≤ 70000) (h : RN 62 w v xs) (hx : ∀ x ∈ xs, right x.2.1 = true ∧ 0 ≤ x.2.2 ∧ x.2.2 ≤ now) (hn : now ≤ MT) (hc : okC c = true) (wc : c.t ≤ 9223372036854775807 ∧ c.n ≤ 9223372036854775807 ∧ c.s ≤ 9223372036854775807) :
    Calls Try.prog 36 #[cv c, v, .int .i64 now] w fun z w' => ∃ v1 v2, z = .returned (.tuple #[v1, v2]) ∧ SwQ w c now xs v1 v2 w' := by
  obtain ⟨i3, hf, hz0, hz1, hz2⟩ := info_parts info62
  obtain ⟨j3, jf, jz0, jz1, jz2⟩ := info_parts info57
  have HCB : Hid (∀ w', Touch [] (w.alloc (cbx c 31)) w' → C7 w' w.heap.size c) := fun w' t => C7.mk' (t.keep (heap_alloc_new w (cbx c 31)) (by simp))
  obtain ⟨V, hV⟩ : ∃ V, V = w.alloc (cbx c 31) := ⟨_, rfl⟩
  have TV : Hid (Touch [] w V) := hid (by rw [hV]; exact (Touch.refl _ _).alloc _)
  rw [← hV] at HCB
  obtain ⟨a, cp, rfl, hcp, hg⟩ := h
  have HG : Hid (0 < xs.length → ∃ g off, a = some ⟨g, off, none⟩ ∧ ∀ w', Touch [] w w' → At7 w' 62 g off xs) := hid (fun hp => by
    obtain ⟨g, off, h1, h2⟩ := hg hp
    have hgl : g < w.heap.size := by obtain ⟨cs, h3, _⟩ := h2; exact block_lt h3
    exact ⟨g, off, h1, fun w' t => h2.keep (t.block g hgl (by simp))⟩)
  have HHow : Hid (∀ w2 x, x ∈ xs → Calls Try.prog 59 #[cv c, ov x.2.1, .int .i64 (now - x.2.2)] w2 fun z w' => z = .returned (.int .i64 (howC c x.2.1 (now - x.2.2))) ∧ Touch [] w2 w') := hid (fun w2 x hm => by
    obtain ⟨a1, a2, a3⟩ := hx x hm
    exact rhow59 w2 c x.2.1 (now - x.2.2) a1 (by omega) (by unfold MT at hn; omega) hc wc)
  have HWr : Hid (∀ x, x ∈ xs → IntKind.i64.wrap (now - x.2.2) = now - x.2.2) := hid (fun x hm => by
    obtain ⟨a1, a2, a3⟩ := hx x hm
    unfold MT at hn
    simp [IntKind.wrap, IntKind.bits, IntKind.signed, IntKind.min, IntKind.max]
    omega)
  obtain ⟨n, hnn⟩ : ∃ n, n = xs.length := ⟨_, rfl⟩
  have HN := hid hnn
  rw [← hnn] at hl hcp ⊢
  have zn : (n : Int) ≤ 70000 := by omega
  have HI0 : Hid (SwI V c now (xs.take 0) (.slice (some ⟨V.heap.size, 0, none⟩) 0 0) (.slice (some ⟨V.heap.size + 1, 0, none⟩) 0 0) ((V.alloc (.cells #[] 62)).alloc (.cells #[] 57))) := hid (by
    refine ⟨?_, ?_, ((Touch.refl _ _).alloc _).alloc _⟩
    · exact (own_new62 V).alloc _
    · refine ⟨rfl, Or.inr ⟨V.heap.size + 1, 0, #[], rfl, Nat.le_succ _, ?_, Nat.le_refl _, by unfold maxLen; decide, rfl, rfl⟩⟩
      have := heap_alloc_new (V.alloc (.cells #[] 62)) (.cells #[] 57)
      rwa [World.size_alloc] at this)
  clear hg hx hn hc wc hnn
  unfold cv
  go_enter Try.func36, Try.ntmps36
  go_upto_region 1 with fail
  unfold cbx at hV
  rw [← hV]
  clear hV
  go_upto_block 0 with fail
  go_wp2_with fail
  go_loopw [8, 9, 16] (fun s8 s9 s16 wr => ∃ (a1 : Option Addr) (n1 c1 : Nat) (a2 : Option Addr) (n2 c2 i : Nat), s8 = .slice a1 n1 c1 ∧ s9 = .slice a2 n2 c2 ∧ s16 = .int .i64 (i : Int) ∧ i ≤ n ∧ n1 ≤ i ∧ n2 ≤ i ∧ Hid (SwI V c now (xs.take i) (.slice a1 n1 c1) (.slice a2 n2 c2) wr ∧ n1 = (swX c now (xs.take i)).length ∧ n2 = (swG c now (xs.take i)).length)) (fun _ _ s _ => n - (intOf s).toNat)
  case atStart => exact ⟨_, 0, 0, _, 0, 0, 0, rfl, rfl, rfl, Nat.zero_le _, Nat.le_refl _, Nat.le_refl _, hid ⟨HI0.out, rfl, rfl⟩⟩
  case round =>
    clear HI0
    obtain ⟨a1, n1, c1, a2, n2, c2, i, rfl, rfl, rfl, hi, hn1, hn2, HS⟩ := hrel
    by_cases hlt : i < n
    · have zi : (i : Int) < (n : Int) := by omega
      have hix : i < xs.length := by have := HN.out; omega
      obtain ⟨g, off, rfl, hat⟩ := HG.out (by omega)
      have hat2 := hat wr (TV.out.trans' HS.out.1.t)
      have r0 := hat2.cell i 0 hix (by omega) rfl
      have r1 := hat2.cell i 1 hix (by omega) rfl
      have r2 := hat2.cell i 2 hix (by omega) rfl
      have r3 := hat2.cell i 3 hix (by omega) rfl
      have r4 := hat2.cell i 4 hix (by omega) rfl
      have r5 := hat2.cell i 5 hix (by omega) rfl
      have r6 := hat2.cell i 6 hix (by omega) rfl
      rw [Nat.add_zero] at r0
      simp only [← Nat.add_assoc] at r1 r2 r3 r4 r5 r6
      have HH := hid (fun w2 => HHow.out w2 xs[i] (List.getElem_mem hix))
      have hw := HWr.out xs[i] (List.getElem_mem hix)
      have HO := hid (fun (ho : isOld c now xs[i] = true) => sw_old (c := c) (now := now) hix ho)
      have HNw := hid (fun (ho : isOld c now xs[i] = false) => sw_new (c := c) (now := now) hix ho)
      have HNi := hid (And.intro hi hlt)
      clear hat hat2 hlt hi
      generalize xs[i] = x at *
      clear hix
      obtain ⟨hh, hhd⟩ : ∃ hh, hh = howC c x.2.1 (now - x.2.2) := ⟨_, rfl⟩
      rw [← hhd] at HH
      obtain ⟨W1, hW1⟩ : ∃ W1, W1 = wr.alloc (rbx x) := ⟨_, rfl⟩
      have t1 : Touch [] wr W1 := by rw [hW1]; exact (Touch.refl _ _).alloc _
      have HX : Hid (∀ w', Touch [] W1 w' → R7 w' wr.heap.size x) := hid (fun w' t => R7.mk' (t.keep (by rw [hW1]; exact heap_alloc_new wr _) (by simp)))
      have HS1 := hid (HS.out.1.keep t1)
      have HLn := hid HS.out.2
      obtain ⟨p0, p1, p2, p3, p4, p5, p6⟩ := HX.out W1 (Touch.refl _ _)
      obtain ⟨d0, d1, d2, d3, d4, d5, d6⟩ := HCB.out W1 HS1.out.t
      unfold cv ov at HH
      unfold rbx at hW1
      clear HS t1
      go_upto_region 5 with fail
      rw [← hW1]
      clear hW1 r0 r1 r2 r3 r4 r5 r6
      by_cases h3 : hh = 3
      · have HE := HO.out (decide_eq_true (by rw [← hhd]; exact h3))
        have HEE := hid HE
        have b3 : (hh == 3) = true := by simp [h3]
        clear h3 hhd HE
        go_upto_region 8 with (first
          | (go_at_call 59; refine (HH.out _).mono ?_; rintro z w2 ⟨rfl, t2⟩; have S2 := hid (HS1.out.keep t2); clear p0 p1 p2 p3 p4 p5 p6; obtain ⟨p0, p1, p2, p3, p4, p5, p6⟩ := HX.out _ t2; have hsz := S2.out.t.size; clear t2)
          | (at_builtin; refine wpList_append_lies _ rfl _ _ 100 rfl V.heap.size 57 j3 (.agg #[.int .u16 0, .string ⟨#[]⟩]) 2 24 Try.underlying100 jf jz0 jz1 jz2 rfl (by decide) (.slice a2 n2 c2) n2 (cellsK (swG c now (xs.take i))) rfl (by have := S2.out.o2; rw [← HLn.out.2] at this; exact this.alloc _) ⟨w2.heap.size, 0, none⟩ 1 1 [.int .u16 x.1.1, .string x.1.2] rfl rfl (cell_two_new _ _ _ _) (by simp [Value.oneCell']) (by decide) (by unfold maxLen; omega) (by omega) (by simp; omega) _ rfl ?_; intro g9 c9 w9 hown9 hgrow hat hlt9; have O9 := hid hown9; have G9 := hid hgrow; clear hown9 hgrow hat hlt9))
        have T9 : Touch (Value.slice a2 n2 c2).ownBlock.toList (w2.alloc (.cells #[.int .u16 x.1.1, .string x.1.2] 57)) w9 := (Touch.refl _ _).grown G9.out (fun k hk => Or.inl (by simp [hk]))
        have S3 := S2.out.keep ((Touch.refl [] w2).alloc (.cells #[.int .u16 x.1.1, .string x.1.2] 57))
        have HS9 : Hid (SwI V c now (xs.take (i + 1)) (.slice a1 n1 c1) (.slice (some ⟨g9, 0, none⟩) (n2 + 1) c9) w9 ∧ n1 = (swX c now (xs.take (i + 1))).length ∧ n2 + 1 = (swG c now (xs.take (i + 1))).length) := hid (by
          refine ⟨⟨?_, ?_, S3.t.trans T9 (fun q hq => Or.inr (S3.o2.lt q (by simpa using hq)).1)⟩, by rw [HEE.out.1]; exact HLn.out.1, by rw [HEE.out.2, List.length_append, ← HLn.out.2]; rfl⟩
          · rw [HEE.out.1]
            exact own_touch S3.o1 T9 (fun b hb => S3.ne b hb)
          · rw [HEE.out.2, cellsK_app, List.length_append, ← HLn.out.2]
            exact O9.out)
        clear S3 T9 O9 G9 S2 p0 p1 p2 p3 p4 p5 p6
        go_wp2_with fail
        go_roundw
        case rel => exact ⟨_, n1, c1, _, n2 + 1, c9, i + 1, rfl, rfl, by go_num, by have := HNi.out; omega, by omega, by omega, HS9⟩
        case measure => simp [intOf]; have := HNi.out; omega
      · have HE := HNw.out (decide_eq_false (by rw [← hhd]; exact h3))
        have HEE := hid HE
        have b3 : (hh == 3) = false := by simp [h3]
        clear h3 hhd HE
        go_upto_region 8 with (first
          | (go_at_call 59; refine (HH.out _).mono ?_; rintro z w2 ⟨rfl, t2⟩; have S2 := hid (HS1.out.keep t2); clear p0 p1 p2 p3 p4 p5 p6; obtain ⟨p0, p1, p2, p3, p4, p5, p6⟩ := HX.out _ t2; have hsz := S2.out.t.size; clear t2)
          | (at_builtin; refine wpList_append_lies _ rfl _ _ 34 rfl V.heap.size 62 i3 zk7 7 64 Try.underlying34 hf hz0 hz1 hz2 rfl (by decide) (.slice a1 n1 c1) n1 (cellsN (swX c now (xs.take i))) rfl (by have := S2.out.o1; rw [← HLn.out.1] at this; exact this.alloc _) ⟨w2.heap.size, 0, none⟩ 1 1 (nl x) rfl rfl (news7 (heap_alloc_new w2 _)) (nl_one x) (by decide) (by unfold maxLen; omega) (by omega) (by simp; omega) _ rfl ?_; intro g9 c9 w9 hown9 hgrow hat hlt9; have O9 := hid hown9; have G9 := hid hgrow; clear hown9 hgrow hat hlt9))
        have T9 : Touch (Value.slice a1 n1 c1).ownBlock.toList (w2.alloc (.cells #[.int .u16 x.1.1, .string x.1.2, .int .i64 x.2.1.1, .int .i64 x.2.1.2.1, .int .i64 x.2.1.2.2.1, .int .i64 x.2.1.2.2.2, .int .i64 x.2.2] 62)) w9 := (Touch.refl _ _).grown G9.out (fun k hk => Or.inl (by simp [hk]))
        have S3 := S2.out.keep ((Touch.refl [] w2).alloc (.cells #[.int .u16 x.1.1, .string x.1.2, .int .i64 x.2.1.1, .int .i64 x.2.1.2.1, .int .i64 x.2.1.2.2.1, .int .i64 x.2.1.2.2.2, .int .i64 x.2.2] 62))
        have HS9 : Hid (SwI V c now (xs.take (i + 1)) (.slice (some ⟨g9, 0, none⟩) (n1 + 1) c9) (.slice a2 n2 c2) w9 ∧ n1 + 1 = (swX c now (xs.take (i + 1))).length ∧ n2 = (swG c now (xs.take (i + 1))).length) := hid (by
          refine ⟨⟨?_, ?_, S3.t.trans T9 (fun q hq => Or.inr (S3.o1.lt q (by simpa using hq)).1)⟩, by rw [HEE.out.1, List.length_append, ← HLn.out.1]; rfl, by rw [HEE.out.2]; exact HLn.out.2⟩
          · rw [HEE.out.1, cellsN_app, cellsN_one, List.length_append, ← HLn.out.1]
            exact O9.out
          · rw [HEE.out.2]
            exact own_touch S3.o2 T9 (fun b hb hh => S3.ne b (by simpa using hh) (by simp [hb])))
        clear S3 T9 O9 G9 S2 p0 p1 p2 p3 p4 p5 p6
        go_wp2_with fail
        go_roundw
        case rel => exact ⟨_, n1 + 1, c9, _, n2, c2, i + 1, rfl, rfl, by go_num, by have := HNi.out; omega, by omega, by omega, HS9⟩
        case measure => simp [intOf]; have := HNi.out; omega
    · have zi : (n : Int) ≤ (i : Int) := by omega
      have HX : Hid (SwQ w c now xs (.slice a1 n1 c1) (.slice a2 n2 c2) wr) := hid (by
        obtain ⟨⟨s1, s2, s3⟩, _, _⟩ := HS.out
        have e : xs.take i = xs := List.take_of_length_le (by have := HN.out; omega)
        rw [e] at s1 s2
        exact ⟨RN.own s1, own_base s2 (Nat.zero_le _), TV.out.trans' s3⟩)
      clear HS
      go_wp2_with fail
      exact bodyPost_ret (v := .tuple #[.slice a1 n1 c1, .slice a2 n2 c2]) (by simp [results, Try.results36, go_sem]) rfl ⟨_, _, rfl, HX.out⟩
end Go.Proofs.Ytopepalpmkeffaa
