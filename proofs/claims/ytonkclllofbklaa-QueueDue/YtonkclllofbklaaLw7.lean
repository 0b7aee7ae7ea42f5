/- The walk of the law QueueDue: Due tells what Take tells; what is dropped and put in again stands behind those of its tick; the list of acts is within the form's reach. -/
import Derived.Test.YtonkclllofbklaaLw4
namespace Go.Proofs.Ytonkclllofbklaa
open Go.RowKit Go.Maps Go.ChangeMaps
set_option linter.unusedVariables false
/-- Two queues by time that share no block, both made since w. -/
structure Tw (w wr : World) (a b : Nat) (F G : List Nat) (p p' : Int) (S S' : List Slot) : Prop where
  a : Tq wr a F p S
  b : Tq wr b G p' S'
  dj : ∀ k, k ∈ F → ¬ k ∈ G
  na : ∀ k, k ∈ F → w.heap.size ≤ k
  nb : ∀ k, k ∈ G → w.heap.size ≤ k
  to : Touch [] w wr
section
variable {w wr w' : World} {a b : Nat} {F F' G G' : List Nat} {p p' r : Int} {S S' T : List Slot}
theorem Tw.quiet (h : Tw w wr a b F G p p' S S') (ht : Touch [] wr w') : Tw w w' a b F G p p' S S' := ⟨h.a.keep0 ht, h.b.keep0 ht, h.dj, h.na, h.nb, h.to.trans' ht⟩
theorem Tw.astep (h : Tw w wr a b F G p p' S S') (hu : Tq w' a F' r T) (ht : Touch F wr w') (hn : Nf wr F F') : Tw w w' a b F' G r p' T S' := by
  refine ⟨hu, h.b.keep ht (fun k hk e => h.dj k e hk), fun k hk e => ?_, fun k hk => ?_, h.nb, h.to.trans ht (fun i hi => Or.inr (h.na i hi))⟩
  · rcases hn k hk with e' | e'
    · exact h.dj k e' e
    · have := h.b.lt k e; omega
  · rcases hn k hk with e' | e'
    · exact h.na k e'
    · exact Nat.le_trans h.to.size e'
theorem Tw.bstep (h : Tw w wr a b F G p p' S S') (hu : Tq w' b G' r T) (ht : Touch G wr w') (hn : Nf wr G G') : Tw w w' a b F G' p r S T := by
  refine ⟨h.a.keep ht (fun k hk e => h.dj k hk e), hu, fun k hk e => ?_, h.na, fun k hk => ?_, h.to.trans ht (fun i hi => Or.inr (h.nb i hi))⟩
  · rcases hn k e with e' | e'
    · exact h.dj k hk e'
    · have := h.a.lt k hk; omega
  · rcases hn k hk with e' | e'
    · exact h.nb k e'
    · exact Nat.le_trans h.to.size e'
end
theorem Tw.make {w w1 w2 : World} (h1 : Tq w1 w.heap.size [w.heap.size] 0 []) (t1 : Touch [] w w1) (h2 : Tq w2 w1.heap.size [w1.heap.size] 0 []) (t2 : Touch [] w1 w2) : Tw w w2 w.heap.size w1.heap.size [w.heap.size] [w1.heap.size] 0 0 [] [] := by
  have := h1.lt w.heap.size (by simp)
  have hz := t1.size
  refine ⟨h1.keep0 t2, h2, fun k hk e => ?_, fun k hk => ?_, fun k hk => ?_, t1.trans' t2⟩
  · simp at hk e; omega
  · simp at hk; omega
  · simp at hk; omega
def Du1 (w wr : World) (a b : Nat) (F G : List Nat) (n : Nat) : Prop := ∃ p S, Tw w wr a b F G p p S S ∧ p ≤ 2 * (n : Int)
theorem ins_gt {S : List Slot} {i : Nat} {x : Slot} (hi : i ≤ S.length) (j : Nat) : gt (ins S i x) j = if j < i then gt S j else if j = i then x else gt S (j - 1) := by
  unfold ins gt
  simp only [List.getD_eq_getElem?_getD]
  rcases Nat.lt_trichotomy j i with h | h | h
  · rw [if_pos h, List.getElem?_append_left (by rw [List.length_take]; omega), List.getElem?_take, if_pos h]
  · subst h
    rw [if_neg (by omega), if_pos rfl, List.getElem?_append_right (by rw [List.length_take]; omega), List.length_take, Nat.min_eq_left hi, Nat.sub_self]
    rfl
  · rw [if_neg (by omega), if_neg (by omega), List.getElem?_append_right (by rw [List.length_take]; omega), List.length_take, Nat.min_eq_left hi, show j - i = (j - 1 - i) + 1 by omega, List.getElem?_cons_succ, List.getElem?_drop, show i + (j - 1 - i) = j - 1 by omega]
theorem ins_len (S : List Slot) (i : Nat) (x : Slot) : (ins S i x).length = S.length + 1 := by rw [(ins_perm S i x).length_eq]; simp
/-- Behind an inserted one of its tick there is none of that tick. -/
theorem ins_later {S : List Slot} {i : Nat} {x : Slot} (hp : Pos S x.at_ i) {j : Nat} (hj : i < j) (hl : j < (ins S i x).length) : (gt (ins S i x) j).at_ ≠ x.at_ := by
  rw [ins_len] at hl
  rw [ins_gt hp.1, if_neg (by omega), if_neg (by omega)]
  have := hp.2.1 (j - 1) (by omega) (by omega)
  omega
theorem ins_here {S : List Slot} {i : Nat} {x : Slot} (hp : i ≤ S.length) : gt (ins S i x) i = x := by rw [ins_gt hp, if_neg (by omega), if_pos rfl]
theorem ins_earlier {S : List Slot} {i : Nat} {x : Slot} (hn : Nd (ins S i x)) (hp : i ≤ S.length) {j : Nat} (hj : j < i) : (gt (ins S i x) j).item ≠ x.item := fun e => by
  have h1 := nd_at hn (i := j) (j := i) (by rw [ins_len]; omega) (by rw [ins_len]; omega) (by rw [ins_here hp]; exact e)
  omega
theorem idx_ins {S : List Slot} {i : Nat} {x : Slot} (hn : Nd (ins S i x)) (hp : i ≤ S.length) : idx (ins S i x) x.item = some i := by
  have := idx_at hn (i := i) (by rw [ins_len]; omega)
  rw [ins_here hp] at this
  exact this
theorem idx_erase {S : List Slot} (hn : Nd S) {k : Int} {a : Nat} (h : idx S k = some a) : idx (S.eraseIdx a) k = none := by
  obtain ⟨h1, h2⟩ := idx_some h
  refine idx_none.2 (fun y hy e => ?_)
  have hp := eraseIdx_perm h1
  have hn' := nd_perm hn hp
  unfold Nd at hn'
  rw [List.map_append, List.nodup_append] at hn'
  exact hn'.2.2 y.item (List.mem_map.2 ⟨y, hy, rfl⟩) (gt S a).item (by simp) (by rw [e, h2])
/-- What Due tells, and how both queues stand behind it. -/
def DdE (e : Ending) (w wr w' : World) (a b : Nat) (G : List Nat) (p : Int) (S : List Slot) (now : Int) : Prop := ∃ a9 c9 k F', e = .returned (.slice a9 k c9) ∧ w'.ownsRow w.heap.size 3 1 (.slice a9 k c9) k (items (S.take k)) ∧ Tw w w' a b F' G p p (S.drop k) S ∧ k ≤ S.length ∧ (∀ j, j < k → (gt S j).at_ ≤ now) ∧ (S.drop k = [] ∨ now < (gt (S.drop k) 0).at_)
theorem own_base {w : World} {B B' e n k : Nat} {v : Value} {xs : List Value} (h : w.ownsRow B e k v n xs) (hb : B' ≤ B) : w.ownsRow B' e k v n xs := by
  obtain ⟨h1, h2 | ⟨g, cap, cur, rfl, hg, r⟩⟩ := h
  · exact ⟨h1, Or.inl h2⟩
  · exact ⟨h1, Or.inr ⟨g, cap, cur, rfl, Nat.le_trans hb hg, r⟩⟩
theorem Bx.lt {w : World} {b : Nat} {a : Act} (h : Bx w b a) : b < w.heap.size := block_lt h
/-- What a Put answers, and how the queue stands behind it. -/
def PutsTo (r : Int) (t k p p1 : Int) (S S1 : List Slot) : Prop := ∀ (x : Nat) (w1 : World) (H : List Nat), Tq w1 x H p S → Calls Try.prog 24 #[.pointer (some ⟨x, 0, none⟩), .int .i64 t, .int .i64 k] w1 fun e w' => e = .returned (.int .i64 r) ∧ ∃ H', Tq w' x H' p1 S1 ∧ Touch H w1 w' ∧ Nf w1 H H'
theorem puts_any (t k p : Int) (S : List Slot) (hk : W64 k) (hs : Srt S) (hp : p < 4611686018427387904) : ∃ r p1 S1, p1 ≤ p + 1 ∧ p ≤ p1 ∧ PutsTo r t k p p1 S S1 := by
  have no : ∀ r : Int, (∀ (x : Nat) (w1 : World) (H : List Nat), Tq w1 x H p S → Calls Try.prog 24 #[PT x, .int .i64 t, .int .i64 k] w1 fun e w' => e = .returned (.int .i64 r) ∧ w' = w1) → PutsTo r t k p p S S := fun r h x w1 H hq => by
    refine (h x w1 H hq).mono ?_
    rintro e w' ⟨he, rfl⟩
    exact ⟨he, H, hq, Touch.refl _ _, Nf.refl _ _⟩
  cases hT : isT t with
  | false => exact ⟨1, p, S, by omega, by omega, no 1 (fun x w1 H _ => put24_arg w1 x t k hT)⟩
  | true =>
    cases hix : idx S k with
    | some a => exact ⟨40, p, S, by omega, by omega, no 40 (fun x w1 H hq => put24_there w1 x H p S t k a hk hq hT hix)⟩
    | none =>
      by_cases h2 : 65536 ≤ S.length
      · exact ⟨3, p, S, by omega, by omega, no 3 (fun x w1 H hq => put24_many w1 x H p S t k hk hq hT hix h2)⟩
      · obtain ⟨i, hi⟩ := pos_ex hs t
        exact ⟨0, p + 1, ins S i ⟨t, p, k⟩, by omega, by omega, fun x w1 H hq => put24_ok w1 x H p S t k i hk hq hT hix (by omega) hi hp⟩
theorem puts_back {S1 : List Slot} {k p1 : Int} {a0 : Nat} (hn : Nd S1) (hs : Srt S1) (hl : S1.length ≤ 65536) (htk : ∀ x ∈ S1, 0 ≤ x.at_ ∧ x.at_ ≤ 4611686018427387904) (hk : W64 k) (hix : idx S1 k = some a0) (hp : p1 < 4611686018427387904) :
    ∃ i, Pos (S1.eraseIdx a0) (gt S1 a0).at_ i ∧ PutsTo 0 (gt S1 a0).at_ k p1 (p1 + 1) (S1.eraseIdx a0) (ins (S1.eraseIdx a0) i ⟨(gt S1 a0).at_, p1, k⟩) := by
  obtain ⟨h1, h2⟩ := idx_some hix
  obtain ⟨i, hi⟩ := pos_ex (srt_eraseIdx hs a0) (gt S1 a0).at_
  exact ⟨i, hi, fun x w1 H hq => put24_ok w1 x H p1 _ _ k i hk hq (isT_yes (htk _ (gt_mem h1))) (idx_erase hn hix) (by rw [List.length_eraseIdx_of_lt h1]; omega) hi hp⟩
set_option maxHeartbeats 8000000 in
set_option maxRecDepth 100000 in
theorem law7 (w : World) (acts : List Act) (v : Value) (hv : SlA w v acts) (wf : ∀ x ∈ acts, WfA x) (hlen : acts.length ≤ 5864062014635) (now : Int) (hnow : (Lit.int .i64 now).wf = true) :
    Calls Try.prog 7 #[v, .int .i64 now] w fun e w' => e = .returned (.bool true) ∧ Touch [] w w' := by
  obtain ⟨aa, c, rfl, HA⟩ : ∃ a c, v = .slice a acts.length c ∧ Hid (acts = [] ∨ ∃ b off, a = some ⟨b, off, none⟩ ∧ RowA w b off acts) := by
    rcases hv with ⟨rfl, a, c, rfl⟩ | ⟨b, off, cap, rfl, hr⟩
    · exact ⟨a, c, rfl, Or.inl rfl⟩
    · exact ⟨_, cap, rfl, Or.inr ⟨b, off, rfl, hr⟩⟩
  have zA : (acts.length : Int) ≤ 5864062014635 := by omega
  have HWf := hid wf
  clear hv wf hnow
  obtain ⟨A, hA⟩ : ∃ A, A = acts.length := ⟨_, rfl⟩
  have HAl := hid hA
  rw [← hA] at zA hlen ⊢
  clear hA
  go_enter Try.func7, Try.ntmps7
  go_wp2_with fail
  refine (newTimes19 w).mono ?_
  rintro e w1 ⟨rfl, u1, t1⟩
  have U1 := hid (And.intro u1 t1)
  clear u1 t1
  unfold PT
  go_wp2_with fail
  refine (newTimes19 w1).mono ?_
  rintro e w2 ⟨rfl, u2, t2⟩
  have W2 := hid (Tw.make U1.out.1 U1.out.2 u2 t2)
  clear u2 t2 U1
  unfold PT
  go_wp2_with (go_at_call 9; refine (awake9 _).mono ?_; rintro e w3 ⟨rfl, t3⟩; have W3 := hid (W2.out.quiet t3); clear t3)
  have HS : Hid (Du1 w w3 w.heap.size w1.heap.size [w.heap.size] [w1.heap.size] 0) := ⟨0, [], W3.out, by simp⟩
  clear W2 W3
  generalize w.heap.size = a at *
  generalize w1.heap.size = b at *
  go_loopw [27] (fun i wr => ∃ (n : Nat) (F G : List Nat), i = .int .i64 n ∧ n ≤ A ∧ Hid (Du1 w wr a b F G n)) (fun i _ => A - (intOf i).toNat)
  case atStart => exact ⟨0, _, _, rfl, Nat.zero_le _, HS⟩
  case round =>
    clear HS
    obtain ⟨n, F, G, rfl, hn, HR⟩ := hrel
    obtain ⟨p, S, hC, hp⟩ := HR.out
    by_cases hlt : n < A
    · have zn : (n : Int) < (A : Int) := by omega
      obtain ⟨ba, off, rfl, hrow⟩ : ∃ b off, aa = some ⟨b, off, none⟩ ∧ RowA w b off acts := by
        rcases HA.out with e | ⟨b, off, e, h⟩
        · have := HAl.out; rw [e] at this; simp at this; omega
        · exact ⟨b, off, e, h⟩
      have hna : n < acts.length := by have := HAl.out; omega
      have hrow' := hrow.keep hC.to
      have r0 := hrow'.c0 n hna
      have r1 := hrow'.c1 n hna
      have r2 := hrow'.c2 n hna
      have HWa := hid (HWf.out _ (List.getElem_mem hna))
      obtain ⟨ac, hac⟩ : ∃ ac, ac = acts[n] := ⟨_, rfl⟩
      rw [← hac] at r0 r1 r2 HWa
      clear hac hrow hrow' HA HR
      obtain ⟨W0, hW0⟩ : ∃ W0, W0 = wr.alloc (.cells #[.int .i64 ac.kd, .int .i64 ac.it, .int .i64 ac.at_] 28) := ⟨_, rfl⟩
      have X0 := hid (show Bx W0 wr.heap.size ac from by rw [hW0]; exact Bx.new wr ac)
      have C0 := hid (show Tw w W0 a b F G p p S S from by rw [hW0]; exact hC.quiet ((Touch.refl _ wr).alloc _))
      have HW0 := hid hW0
      have HBF : Hid (¬ wr.heap.size ∈ F) := wt_nf hC.a
      have HBG : Hid (¬ wr.heap.size ∈ G) := wt_nf hC.b
      have hs := hC.a.srt
      obtain ⟨bx, hbx⟩ : ∃ bx, bx = wr.heap.size := ⟨_, rfl⟩
      have HBx : Hid (bx < W0.heap.size) := by show _ < _; rw [hbx, hW0]; simp
      rw [← hbx] at X0 HBF HBG
      have Hbx := hid hbx
      obtain ⟨r, p1, S1, hp1, hp2, hPT⟩ := puts_any ac.at_ ac.it p S HWa.out.2.1 hs (by omega)
      have HPx := hid hPT
      have HP : Hid (p1 ≤ 2 * (n : Int) + 1) := by show _ ≤ _; omega
      have fx0 : ∀ w', Bx w' bx ac → w'.cell? ⟨bx, 0, none⟩ = some (.int .i64 ac.kd) := fun w' h => h.c0
      have fx1 : ∀ w', Bx w' bx ac → w'.cell? ⟨bx, 1, none⟩ = some (.int .i64 ac.it) := fun w' h => h.c1
      have fx2 : ∀ w', Bx w' bx ac → w'.cell? ⟨bx, 2, none⟩ = some (.int .i64 ac.at_) := fun w' h => h.c2
      clear hC hW0 hs hPT hp hp1 hp2 hbx
      go_wp2_with fail
      rw [← HW0.out, ← Hbx.out]
      go_region_held3 (fun w' => Bx w' bx ac) (first | assumption | exact Bx.keep0 (by assumption) (Touch.refl _ _).drew | exact X0.out.keep0 (Touch.refl _ _).drew | exact X0.out)
        (first
          | (go_at_call_of 24 (#[.pointer (some ⟨a, 0, none⟩), .int .i64 ac.at_, .int .i64 ac.it] : Array Value); refine (HPx.out a _ F (C0.out.quiet (Touch.refl _ _).drew).a).mono ?_; rintro e w2 ⟨rfl, F2, u2, t2, n2⟩; have C2 := hid ((C0.out.quiet (Touch.refl _ _).drew).astep u2 t2 n2); have K2 : Bx w2 bx ac := (X0.out.keep0 (Touch.refl _ _).drew).keep t2 HBF.out; have HBF2 : Hid (¬ bx ∈ F2) := (fun e => (n2 _ e).elim (fun e' => HBF.out e') (fun e' => by have := HBx.out; have e'' : W0.heap.size ≤ bx := e'; omega)); clear u2 t2 n2)
          | (go_at_call 24; refine (HPx.out b _ G C2.out.b).mono ?_; rintro e w3 ⟨rfl, G3, u3, t3, n3⟩; have C3 := hid (C2.out.bstep u3 t3 n3); have K3 : Bx w3 bx ac := Bx.keep (by assumption) t3 HBG.out; have HBG3 : Hid (¬ bx ∈ G3) := (fun e => (n3 _ e).elim (fun e' => HBG.out e') (fun e' => by have := K2.lt; omega)); clear u3 t3 n3))
      have y0 := K3.c0
      have y1 := K3.c1
      have X3 := hid K3
      clear fx0 fx1 fx2 r0 r1 r2 K2 K3
      cases hix : idx S1 ac.it with
      | none =>
        have HAt := hid (at29_none w3 a F2 p1 S1 ac.it HWa.out.2.1 C3.out.a hix)
        clear hix
        unfold PT at HAt
        go_wp2_with (go_at_call 29; refine HAt.out.mono ?_; rintro e w4 ⟨rfl, rfl⟩)
        go_roundw
        case rel => exact ⟨n + 1, F2, G3, by go_num, by omega, p1, S1, C3.out, by have := HP.out; omega⟩
        case measure => simp [intOf]; omega
      | some a0 =>
        have HAt := hid (at29_some w3 a F2 p1 S1 ac.it a0 HWa.out.2.1 C3.out.a hix)
        unfold PT at HAt
        by_cases h5 : ac.kd.tmod 5 = 0
        · have b5 : (ac.kd.tmod 5 == 0) = true := by simpa using h5
          obtain ⟨i, hPos, hPB⟩ := puts_back C3.out.a.nd C3.out.a.srt C3.out.a.len C3.out.a.tk HWa.out.2.1 hix (p1 := p1) (by have := HP.out; omega)
          have HPB := hid hPB
          have HDr : Hid (∀ (x : Nat) (w1 : World) (H : List Nat), Tq w1 x H p1 S1 → Calls Try.prog 22 #[.pointer (some ⟨x, 0, none⟩), .int .i64 ac.it] w1 fun e w' => e = .returned (.bool true) ∧ ∃ H', Tq w' x H' p1 (S1.eraseIdx a0) ∧ Touch H w1 w' ∧ Nf w1 H H') := fun x w1 H h => drop22_yes w1 x H p1 S1 ac.it a0 HWa.out.2.1 h hix
          have HPos := hid hPos
          obtain ⟨S2, hS2⟩ : ∃ S2, S2 = S1.eraseIdx a0 := ⟨_, rfl⟩
          obtain ⟨at0, hat0⟩ : ∃ at0, at0 = (gt S1 a0).at_ := ⟨_, rfl⟩
          rw [← hS2, ← hat0] at HPB HPos
          rw [← hS2] at HDr
          rw [← hat0] at HAt
          obtain ⟨S3, hS3⟩ : ∃ S3, S3 = ins S2 i ⟨at0, p1, ac.it⟩ := ⟨_, rfl⟩
          rw [← hS3] at HPB
          have HS3 := hid hS3
          clear hix h5 hPB hPos hS2 hat0 hS3
          go_wp2_with (first
            | (go_at_call 29; refine HAt.out.mono ?_; rintro e w4 ⟨rfl, rfl⟩)
            | (go_at_call_of 22 (#[.pointer (some ⟨a, 0, none⟩), .int .i64 ac.it] : Array Value); refine (HDr.out a _ F2 C3.out.a).mono ?_; rintro e w5 ⟨rfl, F5, u5, t5, n5⟩; have C5 := hid (C3.out.astep u5 t5 n5); have X5 := hid (X3.out.keep t5 HBF2.out); have y51 := X5.out.c1; have HBF5 : Hid (¬ bx ∈ F5) := (fun e => (n5 _ e).elim (fun e' => HBF2.out e') (fun e' => by have := X3.out.lt; omega)); clear u5 t5 n5)
            | (go_at_call 22; refine (HDr.out b _ G3 C5.out.b).mono ?_; rintro e w6 ⟨rfl, G6, u6, t6, n6⟩; have C6 := hid (C5.out.bstep u6 t6 n6); have X6 := hid (X5.out.keep t6 HBG3.out); have y61 := X6.out.c1; have HBG6 : Hid (¬ bx ∈ G6) := (fun e => (n6 _ e).elim (fun e' => HBG3.out e') (fun e' => by have := X5.out.lt; omega)); clear u6 t6 n6)
            | (go_at_call_of 24 (#[.pointer (some ⟨a, 0, none⟩), .int .i64 at0, .int .i64 ac.it] : Array Value); refine (HPB.out a _ F5 C6.out.a).mono ?_; rintro e w7 ⟨rfl, F7, u7, t7, n7⟩; have C7 := hid (C6.out.astep u7 t7 n7); have X7 := hid (X6.out.keep t7 HBF5.out); have y71 := X7.out.c1; clear u7 t7 n7)
            | (go_at_call 24; refine (HPB.out b _ G6 C7.out.b).mono ?_; rintro e w8 ⟨rfl, G8, u8, t8, n8⟩; have C8 := hid (C7.out.bstep u8 t8 n8); have X8 := hid (X7.out.keep t8 HBG6.out); have y81 := X8.out.c1; clear u8 t8 n8)
            | (go_at_call 33; refine (all33 w8 a F7 (p1 + 1) S3 C8.out.a).mono ?_; rintro e w9 ⟨v9, rfl, o9, t9⟩; obtain ⟨a9, c9, rfl⟩ := own_form o9; have C9 := hid (C8.out.quiet t9); have X9 := hid (X8.out.keep0 t9); have O9 := hid o9; clear o9 t9))
          obtain ⟨N3, hN3⟩ : ∃ N3, N3 = S3.length := ⟨_, rfl⟩
          have HN3 := hid hN3
          have hN65 : (N3 : Int) ≤ 65536 := by rw [hN3]; have := C8.out.a.len; omega
          rw [← hN3] at O9 ⊢
          clear hN3 y0 y1 y51 y61 y71 y81
          obtain ⟨wo, rfl⟩ : ∃ wo, wo = wr := ⟨_, rfl⟩
          go_loopw [11, 83] (fun s11 ix wr => ∃ j : Nat, s11 = .bool (decide (i < j)) ∧ ix = .int .i64 j ∧ j ≤ N3 ∧ Hid (Touch [] w9 wr)) (fun _ ix _ => N3 - (intOf ix).toNat)
          case atStart => exact ⟨0, by simp, rfl, Nat.zero_le _, Touch.refl _ _⟩
          case round =>
            obtain ⟨j, rfl, rfl, hj, HJ⟩ := hrel
            by_cases hjl : j < N3
            · have zj : (j : Int) < (N3 : Int) := by omega
              have hjS : j < S3.length := by have := HN3.out; omega
              obtain ⟨g9, c9', e9, _⟩ := O9.out.form (by omega)
              injection e9 with e91 e92 e93
              subst e91 e93
              clear e92
              obtain ⟨z0, z1⟩ := flat2_at S3 j hjS
              have OJ := own_touch O9.out HJ.out (fun _ _ e => by cases e)
              have q0 := own_cell OJ z0
              have q1 := own_cell OJ z1
              have qb := (X9.out.keep0 HJ.out)
              have qi := qb.c1
              have hqb := qb.lt
              have hse : S3 = ins S2 i ⟨at0, p1, ac.it⟩ := HS3.out
              have hnd3 : Nd (ins S2 i ⟨at0, p1, ac.it⟩) := by rw [← hse]; exact C8.out.a.nd
              rcases Nat.lt_trichotomy j i with hji | hji | hji
              · have d1 : decide (i < j) = false := by simp; omega
                have d2 : decide (i < j + 1) = false := by simp; omega
                have hne : ((gt S3 j).item == ac.it) = false := by
                  have := ins_earlier hnd3 HPos.out.1 hji
                  rw [hse]
                  simpa using this
                rw [d1]
                clear OJ z0 z1 hse hnd3 qb d1
                generalize (gt S3 j).at_ = ya at *
                generalize (gt S3 j).item = yi at *
                have D2 := hid d2
                clear d2
                go_wp2
                go_roundw
                case rel => exact ⟨j + 1, by rw [D2.out], by go_num, by omega, HJ.out.alloc _⟩
                case measure => simp [intOf]; omega
              · have d1 : decide (i < j) = false := by simp; omega
                have d2 : decide (i < j + 1) = true := by simp; omega
                have hne : ((gt S3 j).item == ac.it) = true := by
                  rw [hse, hji, ins_here HPos.out.1]
                  simp
                rw [d1]
                clear OJ z0 z1 hse hnd3 qb d1
                generalize (gt S3 j).at_ = ya at *
                generalize (gt S3 j).item = yi at *
                have D2 := hid d2
                clear d2 hji
                go_wp2
                go_roundw
                case rel => exact ⟨j + 1, by rw [D2.out], by go_num, by omega, HJ.out.alloc _⟩
                case measure => simp [intOf]; omega
              · have d1 : decide (i < j) = true := by simp; omega
                have d2 : decide (i < j + 1) = true := by simp; omega
                have hne : ((gt S3 j).at_ == at0) = false := by
                  have := ins_later (x := ⟨at0, p1, ac.it⟩) HPos.out hji (by rw [← hse]; exact hjS)
                  rw [hse]
                  simpa using this
                rw [d1]
                clear OJ z0 z1 hse hnd3 qb d1
                generalize (gt S3 j).at_ = ya at *
                generalize (gt S3 j).item = yi at *
                have D2 := hid d2
                clear d2
                go_wp2
                go_roundw
                case rel => exact ⟨j + 1, by rw [D2.out], by go_num, by omega, HJ.out.alloc _⟩
                case measure => simp [intOf]; omega
            · have zj : ¬ (j : Int) < (N3 : Int) := by omega
              go_wp2
              go_roundw
              case rel => exact ⟨n + 1, F7, G8, by go_num, by omega, p1 + 1, S3, C9.out.quiet HJ.out, by have := HP.out; omega⟩
              case measure => simp [intOf]; omega
        · have b5 : (ac.kd.tmod 5 == 0) = false := by simpa using h5
          clear hix h5
          generalize (gt S1 a0).at_ = at0 at *
          go_wp2_with (go_at_call 29; refine HAt.out.mono ?_; rintro e w4 ⟨rfl, rfl⟩)
          go_roundw
          case rel => exact ⟨n + 1, F2, G3, by go_num, by omega, p1, S1, C3.out, by have := HP.out; omega⟩
          case measure => simp [intOf]; omega
    · have zn : ¬ (n : Int) < (A : Int) := by omega
      have HDue : Hid (Calls Try.prog 23 #[.pointer (some ⟨a, 0, none⟩), .int .i64 now] wr fun e w' => DdE e w wr w' a b G p S now) := by
        refine (due23 wr a F p S now hC.a).mono ?_
        rintro e w' ⟨v9, k, he, hd⟩
        obtain ⟨a9, c9, rfl⟩ := own_form hd.row
        obtain ⟨F', h1, h2, h3⟩ : ∃ F', (S.drop k = [] ∨ now < (gt (S.drop k) 0).at_) ∧ Tq w' a F' p (S.drop k) ∧ Nf wr F F' := by
          rcases hd.st with ⟨e, _⟩ | ⟨_, r⟩
          · cases e
          · exact r
        exact ⟨a9, c9, k, F', he, own_base hd.row hC.to.size, hC.astep h2 hd.to h3, hd.hk, hd.all, h1⟩
      have hSl := hC.a.len
      have HSl := hid hSl
      clear HR hC hp HA hSl
      go_wp2_with fail
      refine HDue.out.mono ?_
      rintro e w2 ⟨a9, c9, K, F2, rfl, o2, c2, k2, l2, d2⟩
      have O2 := hid (And.intro o2 c2)
      have L2 := hid (And.intro k2 (And.intro l2 d2))
      clear o2 c2 k2 l2 d2 HDue
      have zK : (K : Int) ≤ 65536 := by have := L2.out.1; have := HSl.out; omega
      obtain ⟨wo, rfl⟩ : ∃ wo, wo = wr := ⟨_, rfl⟩
      go_wp2
      go_loopw [109] (fun ix wr => ∃ (j : Nat) (G : List Nat), ix = .int .i64 j ∧ j ≤ K ∧ Hid (wr.ownsRow w.heap.size 3 1 (.slice a9 K c9) K (items (S.take K)) ∧ Tw w wr a b F2 G p p (S.drop K) (S.drop j))) (fun ix _ => K - (intOf ix).toNat)
      case atStart => exact ⟨0, G, rfl, Nat.zero_le _, O2.out.1, by rw [List.drop_zero]; exact O2.out.2⟩
      case round =>
        clear O2
        obtain ⟨j, G3, rfl, hj, HR⟩ := hrel
        by_cases hjl : j < K
        · have zj : (j : Int) < (K : Int) := by omega
          have hjS : j < S.length := by have := L2.out.1; omega
          obtain ⟨g9, c9', e9, _⟩ := HR.out.1.form (by omega)
          injection e9 with e91 e92 e93
          subst e91 e93
          clear e92
          have d1 : wr.cell? ⟨g9, j, none⟩ = some (.int .i64 (gt S j).item) := by
            refine own_cell HR.out.1 ?_
            unfold items
            rw [List.getElem?_map, List.getElem?_take, if_pos hjl, List.getElem?_eq_getElem hjS, gt_eq hjS]
            rfl
          have HTk : Hid (Calls Try.prog 21 #[.pointer (some ⟨b, 0, none⟩), .int .i64 now] wr fun e w' => e = .returned (.tuple #[.int .i64 (gt S j).item, .bool true]) ∧ ∃ G', w'.ownsRow w.heap.size 3 1 (.slice (some ⟨g9, 0, none⟩) K c9) K (items (S.take K)) ∧ Tw w w' a b F2 G' p p (S.drop K) (S.drop (j + 1))) := by
            have hu := HR.out.2.b
            rw [List.drop_eq_getElem_cons hjS, ← gt_eq hjS] at hu
            refine (take21_yes wr b G3 p (gt S j) (S.drop (j + 1)) now hu (L2.out.2.1 j hjl)).mono ?_
            rintro e w' ⟨he, G', u, tt, nn⟩
            exact ⟨he, G', own_touch HR.out.1 tt (fun k hk => HR.out.2.b.apart HR.out.1 (by decide) (by decide) k hk), HR.out.2.bstep u tt nn⟩
          clear HR
          generalize (gt S j).item = y at *
          go_wp2_with (go_at_call 21; refine HTk.out.mono ?_; rintro e w3 ⟨rfl, G4, c3⟩; have C3 := hid c3; clear c3)
          go_roundw
          case rel => exact ⟨j + 1, G4, by go_num, by omega, C3⟩
          case measure => simp [intOf]; omega
        · have zj : ¬ (j : Int) < (K : Int) := by omega
          have hjK : j = K := by omega
          subst hjK
          have HTk := hid (take21_no wr b G3 p (S.drop j) now HR.out.2.b L2.out.2.2)
          have HLa : Hid (∀ w1, Touch [] wr w1 → Calls Try.prog 26 #[.pointer (some ⟨a, 0, none⟩)] w1 fun e w' => e = .returned (.int .i64 (S.drop j).length) ∧ w' = w1) := fun w1 tt => len26 w1 a F2 p (S.drop j) (HR.out.2.a.keep0 tt)
          have HLb : Hid (∀ w1, Touch [] wr w1 → Calls Try.prog 26 #[.pointer (some ⟨b, 0, none⟩)] w1 fun e w' => e = .returned (.int .i64 (S.drop j).length) ∧ w' = w1) := fun w1 tt => len26 w1 b G3 p (S.drop j) (HR.out.2.b.keep0 tt)
          have TW := hid HR.out.2.to
          clear HR
          unfold PT at HTk
          generalize ((S.drop j).length : Int) = LL at *
          go_wp2_with (first
            | (go_at_call 21; refine HTk.out.mono ?_; rintro e w3 ⟨rfl, t3⟩; have T3 := hid t3; clear t3)
            | (go_at_call_of 26 (#[.pointer (some ⟨a, 0, none⟩)] : Array Value); refine (HLa.out _ T3.out).mono ?_; rintro e w4 ⟨rfl, rfl⟩)
            | (go_at_call 26; refine (HLb.out _ T3.out).mono ?_; rintro e w4 ⟨rfl, rfl⟩))
          go_ret
          exact ⟨rfl, TW.out.trans' T3.out⟩
end Go.Proofs.Ytonkclllofbklaa
