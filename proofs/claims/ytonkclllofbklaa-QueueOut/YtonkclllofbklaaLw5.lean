/- The walk of the law QueueOut: what is put in comes out once; the list of acts is within the form's reach. -/
import Derived.Test.YtonkclllofbklaaLw4
namespace Go.Proofs.Ytonkclllofbklaa
open Go.RowKit Go.Maps Go.ChangeMaps
set_option linter.unusedVariables false
def imap (S : List Slot) (k : Int) : Option Value := (idx S k).map (fun a : Nat => Value.int .i64 (gt S a).at_)
theorem Two.other {H : List Nat} {w wr w' : World} {q t : Nat} {F G : List Nat} {p : Int} {xs : List Int} {S : List Slot} (h : Two w wr q t F G p xs S) (ht : Touch H wr w') (hF : ∀ k, k ∈ F → ¬ k ∈ H) (hG : ∀ k, k ∈ G → ¬ k ∈ H) (hn : ∀ k, k ∈ H → w.heap.size ≤ k) : Two w w' q t F G p xs S :=
  ⟨h.u.keep ht hF, h.t.keep ht hG, h.dj, h.nu, h.nt, h.to.trans ht (fun i hi => Or.inr (hn i hi))⟩
theorem own_zero {w : World} {base e n k : Nat} {v : Value} {xs : List Value} (h : w.ownsRow base e k v n xs) : w.ownsRow 0 e k v n xs := by
  obtain ⟨h1, h2 | ⟨g, cap, cur, rfl, hg, r⟩⟩ := h
  · exact ⟨h1, Or.inl h2⟩
  · exact ⟨h1, Or.inr ⟨g, cap, cur, rfl, Nat.zero_le _, r⟩⟩
theorem ints_snoc {w : World} {B N : Nat} {v : Value} {xs : List Int} {k : Int} (h : w.ownsRow B 3 1 v (N + 1) (ints xs ++ [.int .i64 k])) (hN : N = xs.length) : w.ownsRow B 3 1 v (xs ++ [k]).length (ints (xs ++ [k])) := by
  subst hN
  unfold ints at h ⊢
  rw [List.map_append, List.length_append]
  exact h
/-- Two queues, a map and a row, all made since w. -/
structure OuC (w wr : World) (q t : Nat) (F G : List Nat) (p : Int) (xs : List Int) (S : List Slot) (b m : Nat) (M : Int → Option Value) (so : Value) (ys : List Int) : Prop where
  two : Two w wr q t F G p xs S
  map : MapAt wr b m M
  nb : w.heap.size ≤ b
  bF : ¬ b ∈ F
  bG : ¬ b ∈ G
  row : wr.ownsRow w.heap.size 3 1 so ys.length (ints ys)
section
variable {w wr w' : World} {q t : Nat} {F F' G G' : List Nat} {p p' : Int} {xs zs : List Int} {S S' : List Slot} {b m m' : Nat} {M M' : Int → Option Value} {so so' : Value} {ys ys' : List Int}
theorem OuC.quiet (h : OuC w wr q t F G p xs S b m M so ys) (ht : Touch [] wr w') : OuC w w' q t F G p xs S b m M so ys :=
  ⟨h.two.quiet ht, h.map.kept (ht.block b h.map.lt (by simp)), h.nb, h.bF, h.bG, own_touch h.row ht (fun _ _ e => by cases e)⟩
theorem OuC.ustep (h : OuC w wr q t F G p xs S b m M so ys) (hu : Uq w' q F' zs) (ht : Touch F wr w') (hn : Nf wr F F') : OuC w w' q t F' G p zs S b m M so ys := by
  refine ⟨h.two.ustep hu ht hn, h.map.kept (ht.block b h.map.lt h.bF), h.nb, fun e => ?_, h.bG, own_touch h.row ht (fun k hk => h.two.u.apart h.row (by decide) k hk)⟩
  rcases hn b e with e' | e'
  · exact h.bF e'
  · have := h.map.lt; omega
theorem OuC.tstep (h : OuC w wr q t F G p xs S b m M so ys) (hu : Tq w' t G' p' S') (ht : Touch G wr w') (hn : Nf wr G G') : OuC w w' q t F G' p' xs S' b m M so ys := by
  refine ⟨h.two.tstep hu ht hn, h.map.kept (ht.block b h.map.lt h.bG), h.nb, h.bF, fun e => ?_, own_touch h.row ht (fun k hk => h.two.t.apart h.row (by decide) (by decide) k hk)⟩
  rcases hn b e with e' | e'
  · exact h.bG e'
  · have := h.map.lt; omega
theorem OuC.mstep (h : OuC w wr q t F G p xs S b m M so ys) (hm : MapAt w' b m' M') (ht : Touch [b] wr w') : OuC w w' q t F G p xs S b m' M' so ys :=
  ⟨h.two.other ht (fun k hk e => by simp at e; subst e; exact h.bF hk) (fun k hk e => by simp at e; subst e; exact h.bG hk) (fun k hk => by simp at hk; subst hk; exact h.nb), hm, h.nb, h.bF, h.bG, own_touch h.row ht (fun k hk e => by simp at e; exact row_nm (own_zero h.row) h.map k hk e)⟩
theorem OuC.ostep (h : OuC w wr q t F G p xs S b m M so ys) (ht : Touch so.ownBlock.toList wr w') (hr : w'.ownsRow w.heap.size 3 1 so' ys'.length (ints ys')) : OuC w w' q t F G p xs S b m M so' ys' := by
  have e1 : ∀ k, k ∈ so.ownBlock.toList → so.ownBlock = some k := fun k hk => by simpa using hk
  exact ⟨h.two.other ht (fun k hk e => h.two.u.apart h.row (by decide) k (e1 k e) hk) (fun k hk e => h.two.t.apart h.row (by decide) (by decide) k (e1 k e) hk) (fun k hk => (h.row.lt k (e1 k hk)).1), h.map.kept (ht.block b h.map.lt (fun e => row_nm (own_zero h.row) h.map b (e1 b e) rfl)), h.nb, h.bF, h.bG, hr⟩
end
theorem imap_ins {S : List Slot} {i : Nat} {x : Slot} (hn : Nd (ins S i x)) (hx : idx S x.item = none) (k : Int) : upd (imap S) x.item (.int .i64 x.at_) k = imap (ins S i x) k := by
  have hp := ins_perm S i x
  have mem : ∀ y, y ∈ ins S i x ↔ y ∈ S ∨ y = x := fun y => by rw [hp.mem_iff]; simp
  unfold upd imap
  by_cases e : k = x.item
  · rw [if_pos e, e]
    cases h : idx (ins S i x) x.item with
    | none => exact absurd rfl (idx_none.1 h x ((mem x).2 (Or.inr rfl)))
    | some a =>
      obtain ⟨h1, h2⟩ := idx_some h
      show some (Value.int .i64 x.at_) = some (Value.int .i64 (gt (ins S i x) a).at_)
      rw [slot_eq hn (gt_mem h1) ((mem x).2 (Or.inr rfl)) h2]
  · rw [if_neg e]
    cases h : idx S k with
    | none =>
      have : idx (ins S i x) k = none := idx_none.2 (fun y hy => by
        rcases (mem y).1 hy with h' | h'
        · exact idx_none.1 h y h'
        · rw [h']; exact fun e' => e e'.symm)
      rw [this]
      rfl
    | some a =>
      obtain ⟨h1, h2⟩ := idx_some h
      cases h' : idx (ins S i x) k with
      | none => exact absurd h2 (idx_none.1 h' _ ((mem _).2 (Or.inl (gt_mem h1))))
      | some a' =>
        obtain ⟨h3, h4⟩ := idx_some h'
        have := slot_eq hn (gt_mem h3) ((mem _).2 (Or.inl (gt_mem h1))) (by rw [h4, h2])
        show some (Value.int .i64 (gt S a).at_) = some (Value.int .i64 (gt (ins S i x) a').at_)
        rw [this]
theorem imap_tail {x : Slot} {S : List Slot} (hn : Nd (x :: S)) (k : Int) : del (imap (x :: S)) x.item k = imap S k := by
  have hx : ∀ y ∈ S, y.item ≠ x.item := fun y hy e => by
    unfold Nd at hn
    rw [List.map_cons, List.nodup_cons] at hn
    exact hn.1 (e ▸ List.mem_map.2 ⟨y, hy, rfl⟩)
  show (if k = x.item then none else imap (x :: S) k) = imap S k
  by_cases e : k = x.item
  · rw [if_pos e, e]
    unfold imap
    rw [idx_none.2 hx]
    rfl
  · rw [if_neg e]
    unfold imap idx
    rw [List.findIdx?_cons, if_neg (by simpa using fun e' => e e'.symm)]
    cases List.findIdx? (fun x => x.item == k) S with
    | none => rfl
    | some a => rfl
theorem imap_head (x : Slot) (S : List Slot) : imap (x :: S) x.item = some (.int .i64 x.at_) := by
  unfold imap idx
  rw [List.findIdx?_cons, if_pos (by simp)]
  rfl
/-- How many items lie in a queue by time, as the memory has it. -/
def szT (w : World) (t : Nat) : Nat := lenOf ((w.cell? ⟨t, 0, none⟩).getD (.int .i64 0))
theorem Tq.sz {w : World} {q : Nat} {F : List Nat} {p : Int} {S : List Slot} (h : Tq w q F p S) : szT w q = S.length := by
  obtain ⟨sl, m, rfl, t⟩ := h
  obtain ⟨s, h1, h2, h3⟩ := t.ex
  obtain ⟨a, c, rfl⟩ := own_form h1.row
  unfold szT
  rw [h1.hc.c0, ← h3.length_eq]
  rfl
def Ou1 (w wr : World) (q t : Nat) (F G : List Nat) (b : Nat) (so : Value) (n : Nat) : Prop := ∃ p xs S, OuC w wr q t F G p xs S b S.length (imap S) so xs ∧ p ≤ (n : Int)

set_option maxHeartbeats 8000000 in
set_option maxRecDepth 100000 in
theorem law5 (w : World) (acts : List Act) (v : Value) (hv : SlA w v acts) (wf : ∀ x ∈ acts, WfA x) (hlen : acts.length ≤ 5864062014635) :
    Calls Try.prog 5 #[v] w fun e w' => e = .returned (.bool true) ∧ Touch [] w w' := by
  obtain ⟨a, c, rfl, HA⟩ : ∃ a c, v = .slice a acts.length c ∧ Hid (acts = [] ∨ ∃ b off, a = some ⟨b, off, none⟩ ∧ RowA w b off acts) := by
    rcases hv with ⟨rfl, a, c, rfl⟩ | ⟨b, off, cap, rfl, hr⟩
    · exact ⟨a, c, rfl, Or.inl rfl⟩
    · exact ⟨_, cap, rfl, Or.inr ⟨b, off, rfl, hr⟩⟩
  have zA : (acts.length : Int) ≤ 5864062014635 := by omega
  have HWf := hid wf
  clear hv wf
  obtain ⟨A, hA⟩ : ∃ A, A = acts.length := ⟨_, rfl⟩
  have HAl := hid hA
  rw [← hA] at zA hlen ⊢
  clear hA
  have hmm := @run_makeMap Try.prog
  obtain ⟨i3, hi, hz0, hz1, hz2⟩ := info_parts info3
  go_enter Try.func5, Try.ntmps5
  go_wp2_with fail
  refine (newTurns8 w).mono ?_
  rintro e w1 ⟨rfl, u1, t1⟩
  have U1 := hid (And.intro u1 t1)
  clear u1 t1
  unfold PT
  go_wp2_with fail
  refine (newTimes19 w1).mono ?_
  rintro e w2 ⟨rfl, u2, t2⟩
  have W2 := hid (Two.make U1.out.1 U1.out.2 u2 t2)
  clear u2 t2 U1
  unfold PT
  go_wp2_with (go_at_call 9; refine (awake9 _).mono ?_; rintro e w3 ⟨rfl, t3⟩; have W3 := hid (W2.out.quiet t3); clear t3)
  have HS : Hid (Ou1 w ((w3.alloc (.map #[] 0)).alloc (.cells #[] 3)) w.heap.size w1.heap.size [w.heap.size] [w1.heap.size] w3.heap.size (.slice (some ⟨w3.heap.size + 1, 0, none⟩) 0 0) 0) := by
    have hz := W3.out.to.size
    have T1 : Touch [] w3 (w3.alloc (.map #[] 0)) := (Touch.refl _ _).alloc _
    have T2 : Touch [] (w3.alloc (.map #[] 0)) ((w3.alloc (.map #[] 0)).alloc (.cells #[] 3)) := (Touch.refl _ _).alloc _
    have M1 : MapAt ((w3.alloc (.map #[] 0)).alloc (.cells #[] 3)) w3.heap.size 0 (imap []) := ((mapAt_made w3).congr (fun k _ => rfl)).kept (T2.block _ (by simp) (by simp))
    refine ⟨0, [], [], ⟨W3.out.quiet (T1.trans' T2), M1, hz, fun e => ?_, fun e => ?_, ?_⟩, by simp⟩
    · have := W3.out.u.lt _ e; omega
    · have := W3.out.t.lt _ e; omega
    · have := World.ownsRow_made (base := w.heap.size) (e := 3) (size := 1) (w3.alloc (.map #[] 0)) #[] 0 (by simp; omega) (by unfold maxLen; omega) rfl
      rw [show (w3.alloc (.map #[] 0)).heap.size = w3.heap.size + 1 by simp] at this
      exact this
  clear W2 W3
  generalize w.heap.size = q at *
  generalize w1.heap.size = t at *
  generalize w3.heap.size + 1 = g0 at *
  generalize w3.heap.size = b at *
  go_loopw [6, 37] (fun s6 i wr => ∃ (n N c : Nat) (a6 : Option Addr) (F G : List Nat), s6 = .slice a6 N c ∧ i = .int .i64 n ∧ n ≤ A ∧ Hid (Ou1 w wr q t F G b (.slice a6 N c) n)) (fun _ i _ => A - (intOf i).toNat)
  case atStart => exact ⟨0, 0, 0, _, _, _, rfl, rfl, Nat.zero_le _, HS⟩
  case round =>
    clear HS
    obtain ⟨n, N, c6, a6, F, G, rfl, rfl, hn, HR⟩ := hrel
    obtain ⟨p, xs, S, hC, hp⟩ := HR.out
    by_cases hlt : n < A
    · have zn : (n : Int) < (A : Int) := by omega
      obtain ⟨ba, off, rfl, hrow⟩ : ∃ b off, a = some ⟨b, off, none⟩ ∧ RowA w b off acts := by
        rcases HA.out with e | ⟨b, off, e, h⟩
        · have := HAl.out; rw [e] at this; simp at this; omega
        · exact ⟨b, off, e, h⟩
      have hna : n < acts.length := by have := HAl.out; omega
      have hrow' := hrow.keep hC.two.to
      have r0 := hrow'.c0 n hna
      have r1 := hrow'.c1 n hna
      have r2 := hrow'.c2 n hna
      have HWa := hid (HWf.out _ (List.getElem_mem hna))
      obtain ⟨ac, hac⟩ : ∃ ac, ac = acts[n] := ⟨_, rfl⟩
      rw [← hac] at r0 r1 r2 HWa
      clear hac hrow hrow' HA HR
      have hN : N = xs.length := by
        obtain ⟨x1, x2, e⟩ := own_form hC.row
        injection e with _ e2 _
      obtain ⟨W0, hW0⟩ : ∃ W0, W0 = wr.alloc (.cells #[.int .i64 ac.kd, .int .i64 ac.it, .int .i64 ac.at_] 28) := ⟨_, rfl⟩
      have X0 := hid (show Bx W0 wr.heap.size ac from by rw [hW0]; exact Bx.new wr ac)
      have C0 := hid (show OuC w W0 q t F G p xs S b S.length (imap S) (.slice a6 N c6) xs from by rw [hW0]; exact hC.quiet ((Touch.refl _ wr).alloc _))
      have HW0 := hid hW0
      have HBF : Hid (¬ wr.heap.size ∈ F) := wr_nf hC.two.u
      have HBG : Hid (¬ wr.heap.size ∈ G) := wt_nf hC.two.t
      have HBb : Hid (¬ wr.heap.size = b) := fun e => by have := hC.map.lt; omega
      have HBr : Hid (∀ k, (Value.slice a6 N c6).ownBlock = some k → k < wr.heap.size) := fun k hk => (hC.row.lt k hk).2
      have hxl := hC.two.u.len
      have HN := hid hN
      have Hxl := hid hxl
      have HP := hid hp
      have fx1 : ∀ w', Bx w' wr.heap.size ac → w'.cell? ⟨wr.heap.size, 1, none⟩ = some (.int .i64 ac.it) := fun w' h => h.c1
      have fx2 : ∀ w', Bx w' wr.heap.size ac → w'.cell? ⟨wr.heap.size, 2, none⟩ = some (.int .i64 ac.at_) := fun w' h => h.c2
      obtain ⟨lv, lb, HLk⟩ : ∃ lv lb, Hid ((∀ w1, MapAt w1 b S.length (imap S) → (Instr.lookup 51 (.map (some b)) (.int .i64 ac.it) true).run Try.prog w1 = .ok (.tuple #[lv, .bool lb]) w1) ∧ (idx S ac.it = none → lb = false)) := ⟨_, _, fun w1 h => h.lookOk (t := 51) Try.underlying51 (zero2 w1) HWa.out.2.1, fun h => by simp [imap, h]⟩
      clear hC hN hxl hp hW0
      -- the queue by turn's answer
      have HUcase : (∃ r : Int, (r == 0) = false ∧ Hid (∀ w1, Uq w1 q F xs → Calls Try.prog 17 #[.pointer (some ⟨q, 0, none⟩), .int .i64 ac.it] w1 fun e w' => e = .returned (.int .i64 r) ∧ Touch [] w1 w')) ∨ Hid (∀ w1, Uq w1 q F xs → Calls Try.prog 17 #[.pointer (some ⟨q, 0, none⟩), .int .i64 ac.it] w1 fun e w' => e = .returned (.int .i64 0) ∧ ∃ F', Uq w' q F' (xs ++ [ac.it]) ∧ Touch F w1 w' ∧ Nf w1 F F') := by
        by_cases h1 : ac.it ∈ xs
        · exact Or.inl ⟨40, rfl, fun w1 h => uput_there w1 q F xs ac.it HWa.out.2.1 h h1⟩
        · by_cases h2 : 65536 ≤ xs.length
          · exact Or.inl ⟨3, rfl, fun w1 h => uput_many w1 q F xs ac.it HWa.out.2.1 h h1 h2⟩
          · exact Or.inr (fun w1 h => uput_ok w1 q F xs ac.it HWa.out.2.1 h h1 (by omega))
      have HTcase : ((isT ac.at_ = false ∧ Hid (∀ w1, Tq w1 t G p S → Calls Try.prog 24 #[.pointer (some ⟨t, 0, none⟩), .int .i64 ac.at_, .int .i64 ac.it] w1 fun e w' => e = .returned (.int .i64 1) ∧ w' = w1)) ∨ (∃ r : Int, (r == 0) = false ∧ (r == 1) = false ∧ Hid (∀ w1, Tq w1 t G p S → Calls Try.prog 24 #[.pointer (some ⟨t, 0, none⟩), .int .i64 ac.at_, .int .i64 ac.it] w1 fun e w' => e = .returned (.int .i64 r) ∧ w' = w1))) ∨ (idx S ac.it = none ∧ ∃ i, Hid (∀ w1, Tq w1 t G p S → Calls Try.prog 24 #[.pointer (some ⟨t, 0, none⟩), .int .i64 ac.at_, .int .i64 ac.it] w1 fun e w' => e = .returned (.int .i64 0) ∧ ∃ G', Tq w' t G' (p + 1) (ins S i ⟨ac.at_, p, ac.it⟩) ∧ Touch G w1 w' ∧ Nf w1 G G')) := by
        cases hT : isT ac.at_ with
        | false => exact Or.inl (Or.inl ⟨rfl, fun w1 h => put24_arg w1 t ac.at_ ac.it hT⟩)
        | true =>
          cases hix : idx S ac.it with
          | some p0 => exact Or.inl (Or.inr ⟨40, rfl, rfl, fun w1 h => put24_there w1 t G p S ac.at_ ac.it p0 HWa.out.2.1 h hT hix⟩)
          | none =>
            by_cases h2 : 65536 ≤ S.length
            · exact Or.inl (Or.inr ⟨3, rfl, rfl, fun w1 h => put24_many w1 t G p S ac.at_ ac.it HWa.out.2.1 h hT hix h2⟩)
            · obtain ⟨i, hpos⟩ := pos_ex C0.out.two.t.srt ac.at_
              exact Or.inr ⟨rfl, i, fun w1 h => put24_ok w1 t G p S ac.at_ ac.it i HWa.out.2.1 h hT hix (by omega) hpos (by have := HP.out; omega)⟩
      rcases HUcase with ⟨r, hr0, HU⟩ | HU
      · rcases HTcase with (⟨hT, HT⟩ | ⟨r', hr0', hr1', HT⟩) | ⟨hix, i, HT⟩
        · have hT3 : ac.at_ < 0 ∨ ¬ ac.at_ < 0 ∧ 4611686018427387904 < ac.at_ := by
            have : ¬ (0 ≤ ac.at_ ∧ ac.at_ ≤ 4611686018427387904) := of_decide_eq_false hT
            omega
          clear hT
          rcases hT3 with g1 | ⟨g1, g2⟩
          all_goals
            go_wp2_with fail
            rw [← HW0.out]
            go_region_held3 (fun w' => Bx w' wr.heap.size ac) (first | assumption | exact Bx.keep0 (by assumption) (Touch.refl _ _).drew | exact X0.out.keep0 (Touch.refl _ _).drew | exact X0.out)
              (first
                | (go_at_call 17; refine (HU.out _ (C0.out.two.quiet (Touch.refl _ _).drew).u).mono ?_; rintro e w2 ⟨rfl, t2⟩; have C2 := hid ((C0.out.quiet (Touch.refl _ _).drew).quiet t2); have K2 : Bx w2 wr.heap.size ac := (X0.out.keep0 (Touch.refl _ _).drew).keep0 t2; clear t2)
                | (go_at_call 24; refine (HT.out _ C2.out.two.t).mono ?_; rintro e w3 ⟨rfl, rfl⟩; have C3 := C2; have K3 := K2))
            have hl3 := HLk.out.1 _ C3.out.map
            have x31 := K3.c1
            have x32 := K3.c2
            clear fx1 fx2 r0 r1 r2
            go_wp2
            have HR9 := hid (show Ou1 w _ q t _ _ b _ (n + 1) from ⟨p, xs, S, C3.out, by have := HP.out; omega⟩)
            go_roundw
            case rel => exact ⟨n + 1, _, _, _, _, _, rfl, by go_num, by omega, HR9⟩
            case measure => simp [intOf]; omega
        · go_wp2_with fail
          rw [← HW0.out]
          go_region_held3 (fun w' => Bx w' wr.heap.size ac) (first | assumption | exact Bx.keep0 (by assumption) (Touch.refl _ _).drew | exact X0.out.keep0 (Touch.refl _ _).drew | exact X0.out)
            (first
              | (go_at_call 17; refine (HU.out _ (C0.out.two.quiet (Touch.refl _ _).drew).u).mono ?_; rintro e w2 ⟨rfl, t2⟩; have C2 := hid ((C0.out.quiet (Touch.refl _ _).drew).quiet t2); have K2 : Bx w2 wr.heap.size ac := (X0.out.keep0 (Touch.refl _ _).drew).keep0 t2; clear t2)
              | (go_at_call 24; refine (HT.out _ C2.out.two.t).mono ?_; rintro e w3 ⟨rfl, rfl⟩; have C3 := C2; have K3 := K2))
          have hl3 := HLk.out.1 _ C3.out.map
          have x31 := K3.c1
          have x32 := K3.c2
          clear fx1 fx2 r0 r1 r2
          go_wp2
          have HR9 := hid (show Ou1 w _ q t _ _ b _ (n + 1) from ⟨p, xs, S, C3.out, by have := HP.out; omega⟩)
          go_roundw
          case rel => exact ⟨n + 1, _, _, _, _, _, rfl, by go_num, by omega, HR9⟩
          case measure => simp [intOf]; omega
        · go_wp2_with fail
          rw [← HW0.out]
          go_region_held3 (fun w' => Bx w' wr.heap.size ac) (first | assumption | exact Bx.keep0 (by assumption) (Touch.refl _ _).drew | exact X0.out.keep0 (Touch.refl _ _).drew | exact X0.out)
            (first
              | (go_at_call 17; refine (HU.out _ (C0.out.two.quiet (Touch.refl _ _).drew).u).mono ?_; rintro e w2 ⟨rfl, t2⟩; have C2 := hid ((C0.out.quiet (Touch.refl _ _).drew).quiet t2); have K2 : Bx w2 wr.heap.size ac := (X0.out.keep0 (Touch.refl _ _).drew).keep0 t2; clear t2)
              | (go_at_call 24; refine (HT.out _ C2.out.two.t).mono ?_; rintro e w3 ⟨rfl, G3, u3, t3, n3⟩; have C3 := hid (C2.out.tstep u3 t3 n3); have K3 : Bx w3 wr.heap.size ac := Bx.keep (by assumption) t3 HBG.out; clear u3 t3 n3))
          have hl3 := HLk.out.1 w3 C3.out.map
          have x31 := K3.c1
          have x32 := K3.c2
          clear fx1 fx2 r0 r1 r2
          have hlb : lb = false := HLk.out.2 hix
          subst hlb
          obtain ⟨o4, hu4, hm4⟩ := C3.out.map.set (t := 51) Try.underlying51 (maxLen_big' (by have := C0.out.two.t.len; omega)) HWa.out.2.1 (.int .i64 ac.at_)
          have T4 : Touch [b] w3 (setBlock w3 b o4) := touch_setBlock (Touch.refl _ _) (by simp) o4
          have C4 := hid (C3.out.mstep (M' := imap (ins S i ⟨ac.at_, p, ac.it⟩)) (m' := (ins S i ⟨ac.at_, p, ac.it⟩).length) (((hm4.congr (fun k _ => imap_ins C3.out.two.t.nd hix k)).same (by rw [show imap S ac.it = none by simp [imap, hix], (ins_perm S i _).length_eq]; simp))) T4)
          have K4 : Bx (setBlock w3 b o4) wr.heap.size ac := K3.keep T4 (by simpa using HBb.out)
          generalize setBlock w3 b o4 = w4 at *
          have x41 := K4.c1
          have x42 := K4.c2
          clear hm4 T4 K3 K2
          go_wp2
          have HR9 := hid (show Ou1 w _ q t _ _ b _ (n + 1) from ⟨p + 1, xs, (ins S i ⟨ac.at_, p, ac.it⟩), C4.out, by have := HP.out; omega⟩)
          go_roundw
          case rel => exact ⟨n + 1, _, _, _, _, _, rfl, by go_num, by omega, HR9⟩
          case measure => simp [intOf]; omega
      · rcases HTcase with (⟨hT, HT⟩ | ⟨r', hr0', hr1', HT⟩) | ⟨hix, i, HT⟩
        · have hT3 : ac.at_ < 0 ∨ ¬ ac.at_ < 0 ∧ 4611686018427387904 < ac.at_ := by
            have : ¬ (0 ≤ ac.at_ ∧ ac.at_ ≤ 4611686018427387904) := of_decide_eq_false hT
            omega
          clear hT
          rcases hT3 with g1 | ⟨g1, g2⟩
          all_goals
            go_wp2_with fail
            rw [← HW0.out]
            go_region_held3 (fun w' => Bx w' wr.heap.size ac) (first | assumption | exact Bx.keep0 (by assumption) (Touch.refl _ _).drew | exact X0.out.keep0 (Touch.refl _ _).drew | exact X0.out)
              (first
                | (go_at_call 17; refine (HU.out _ (C0.out.two.quiet (Touch.refl _ _).drew).u).mono ?_; rintro e w2 ⟨rfl, F2, u2, t2, n2⟩; have C2 := hid ((C0.out.quiet (Touch.refl _ _).drew).ustep u2 t2 n2); have K2 : Bx w2 wr.heap.size ac := (X0.out.keep0 (Touch.refl _ _).drew).keep t2 HBF.out; clear u2 t2 n2)
                | (go_at_call 24; refine (HT.out _ C2.out.two.t).mono ?_; rintro e w3 ⟨rfl, rfl⟩; have C3 := C2; have K3 := K2))
            have hl3 := HLk.out.1 _ C3.out.map
            have x31 := K3.c1
            have x32 := K3.c2
            clear fx1 fx2 r0 r1 r2
            have hNb : (N : Int) ≤ 65536 := by have := Hxl.out; have := HN.out; omega
            have hbs := C3.out.two.to.size
            have OR := hid C3.out.row
            rw [← HN.out] at OR
            go_wp2_with (at_builtin; refine wpList_append_lies _ rfl _ _ 47 rfl w.heap.size 3 i3 (.int .i64 0) 1 8 Try.underlying47 hi hz0 hz1 hz2 rfl (by decide) (.slice a6 N c6) N (ints xs) rfl (OR.out.alloc _) ⟨_, 0, none⟩ 1 1 [.int .i64 ac.it] rfl rfl (cell_one_new _ _ _) (by simp [Value.oneCell']) (by decide) (by unfold maxLen; omega) (by omega) (by simp; omega) _ rfl ?_; intro g5 c5 w5 hr5 hgrow5 hat5 hlt5; have T5 := ((Touch.refl (Value.slice a6 N c6).ownBlock.toList _).alloc _).grown hgrow5 (fun k hk => Or.inl (by simp [hk])); have C5 := hid (C3.out.ostep (so' := .slice (some ⟨g5, 0, none⟩) (N + 1) c5) (ys' := xs ++ [ac.it]) T5 (ints_snoc hr5 HN.out)); have K5 := K3.keep T5 (fun e => by have := HBr.out _ (by simpa using e); omega); have x51 := K5.c1; have x52 := K5.c2; clear T5 hgrow5 hr5 hat5)
            have HR9 := hid (show Ou1 w _ q t _ _ b _ (n + 1) from ⟨p, (xs ++ [ac.it]), S, C5.out, by have := HP.out; omega⟩)
            go_roundw
            case rel => exact ⟨n + 1, _, _, _, _, _, rfl, by go_num, by omega, HR9⟩
            case measure => simp [intOf]; omega
        · go_wp2_with fail
          rw [← HW0.out]
          go_region_held3 (fun w' => Bx w' wr.heap.size ac) (first | assumption | exact Bx.keep0 (by assumption) (Touch.refl _ _).drew | exact X0.out.keep0 (Touch.refl _ _).drew | exact X0.out)
            (first
              | (go_at_call 17; refine (HU.out _ (C0.out.two.quiet (Touch.refl _ _).drew).u).mono ?_; rintro e w2 ⟨rfl, F2, u2, t2, n2⟩; have C2 := hid ((C0.out.quiet (Touch.refl _ _).drew).ustep u2 t2 n2); have K2 : Bx w2 wr.heap.size ac := (X0.out.keep0 (Touch.refl _ _).drew).keep t2 HBF.out; clear u2 t2 n2)
              | (go_at_call 24; refine (HT.out _ C2.out.two.t).mono ?_; rintro e w3 ⟨rfl, rfl⟩; have C3 := C2; have K3 := K2))
          have hl3 := HLk.out.1 _ C3.out.map
          have x31 := K3.c1
          have x32 := K3.c2
          clear fx1 fx2 r0 r1 r2
          have hNb : (N : Int) ≤ 65536 := by have := Hxl.out; have := HN.out; omega
          have hbs := C3.out.two.to.size
          have OR := hid C3.out.row
          rw [← HN.out] at OR
          go_wp2_with (at_builtin; refine wpList_append_lies _ rfl _ _ 47 rfl w.heap.size 3 i3 (.int .i64 0) 1 8 Try.underlying47 hi hz0 hz1 hz2 rfl (by decide) (.slice a6 N c6) N (ints xs) rfl (OR.out.alloc _) ⟨_, 0, none⟩ 1 1 [.int .i64 ac.it] rfl rfl (cell_one_new _ _ _) (by simp [Value.oneCell']) (by decide) (by unfold maxLen; omega) (by omega) (by simp; omega) _ rfl ?_; intro g5 c5 w5 hr5 hgrow5 hat5 hlt5; have T5 := ((Touch.refl (Value.slice a6 N c6).ownBlock.toList _).alloc _).grown hgrow5 (fun k hk => Or.inl (by simp [hk])); have C5 := hid (C3.out.ostep (so' := .slice (some ⟨g5, 0, none⟩) (N + 1) c5) (ys' := xs ++ [ac.it]) T5 (ints_snoc hr5 HN.out)); have K5 := K3.keep T5 (fun e => by have := HBr.out _ (by simpa using e); omega); have x51 := K5.c1; have x52 := K5.c2; clear T5 hgrow5 hr5 hat5)
          have HR9 := hid (show Ou1 w _ q t _ _ b _ (n + 1) from ⟨p, (xs ++ [ac.it]), S, C5.out, by have := HP.out; omega⟩)
          go_roundw
          case rel => exact ⟨n + 1, _, _, _, _, _, rfl, by go_num, by omega, HR9⟩
          case measure => simp [intOf]; omega
        · go_wp2_with fail
          rw [← HW0.out]
          go_region_held3 (fun w' => Bx w' wr.heap.size ac) (first | assumption | exact Bx.keep0 (by assumption) (Touch.refl _ _).drew | exact X0.out.keep0 (Touch.refl _ _).drew | exact X0.out)
            (first
              | (go_at_call 17; refine (HU.out _ (C0.out.two.quiet (Touch.refl _ _).drew).u).mono ?_; rintro e w2 ⟨rfl, F2, u2, t2, n2⟩; have C2 := hid ((C0.out.quiet (Touch.refl _ _).drew).ustep u2 t2 n2); have K2 : Bx w2 wr.heap.size ac := (X0.out.keep0 (Touch.refl _ _).drew).keep t2 HBF.out; clear u2 t2 n2)
              | (go_at_call 24; refine (HT.out _ C2.out.two.t).mono ?_; rintro e w3 ⟨rfl, G3, u3, t3, n3⟩; have C3 := hid (C2.out.tstep u3 t3 n3); have K3 : Bx w3 wr.heap.size ac := Bx.keep (by assumption) t3 HBG.out; clear u3 t3 n3))
          have hl3 := HLk.out.1 w3 C3.out.map
          have x31 := K3.c1
          have x32 := K3.c2
          clear fx1 fx2 r0 r1 r2
          have hlb : lb = false := HLk.out.2 hix
          subst hlb
          obtain ⟨o4, hu4, hm4⟩ := C3.out.map.set (t := 51) Try.underlying51 (maxLen_big' (by have := C0.out.two.t.len; omega)) HWa.out.2.1 (.int .i64 ac.at_)
          have T4 : Touch [b] w3 (setBlock w3 b o4) := touch_setBlock (Touch.refl _ _) (by simp) o4
          have C4 := hid (C3.out.mstep (M' := imap (ins S i ⟨ac.at_, p, ac.it⟩)) (m' := (ins S i ⟨ac.at_, p, ac.it⟩).length) (((hm4.congr (fun k _ => imap_ins C3.out.two.t.nd hix k)).same (by rw [show imap S ac.it = none by simp [imap, hix], (ins_perm S i _).length_eq]; simp))) T4)
          have K4 : Bx (setBlock w3 b o4) wr.heap.size ac := K3.keep T4 (by simpa using HBb.out)
          generalize setBlock w3 b o4 = w4 at *
          have x41 := K4.c1
          have x42 := K4.c2
          clear hm4 T4 K3 K2
          have hNb : (N : Int) ≤ 65536 := by have := Hxl.out; have := HN.out; omega
          have hbs := C4.out.two.to.size
          have OR := hid C4.out.row
          rw [← HN.out] at OR
          go_wp2_with (at_builtin; refine wpList_append_lies _ rfl _ _ 47 rfl w.heap.size 3 i3 (.int .i64 0) 1 8 Try.underlying47 hi hz0 hz1 hz2 rfl (by decide) (.slice a6 N c6) N (ints xs) rfl (OR.out.alloc _) ⟨_, 0, none⟩ 1 1 [.int .i64 ac.it] rfl rfl (cell_one_new _ _ _) (by simp [Value.oneCell']) (by decide) (by unfold maxLen; omega) (by omega) (by simp; omega) _ rfl ?_; intro g5 c5 w5 hr5 hgrow5 hat5 hlt5; have T5 := ((Touch.refl (Value.slice a6 N c6).ownBlock.toList _).alloc _).grown hgrow5 (fun k hk => Or.inl (by simp [hk])); have C5 := hid (C4.out.ostep (so' := .slice (some ⟨g5, 0, none⟩) (N + 1) c5) (ys' := xs ++ [ac.it]) T5 (ints_snoc hr5 HN.out)); have K5 := K4.keep T5 (fun e => by have := HBr.out _ (by simpa using e); omega); have x51 := K5.c1; have x52 := K5.c2; clear T5 hgrow5 hr5 hat5)
          have HR9 := hid (show Ou1 w _ q t _ _ b _ (n + 1) from ⟨p + 1, (xs ++ [ac.it]), (ins S i ⟨ac.at_, p, ac.it⟩), C5.out, by have := HP.out; omega⟩)
          go_roundw
          case rel => exact ⟨n + 1, _, _, _, _, _, rfl, by go_num, by omega, HR9⟩
          case measure => simp [intOf]; omega
    · have zn : ¬ (n : Int) < (A : Int) := by omega
      have hN : N = xs.length := by
        obtain ⟨x1, x2, e⟩ := own_form hC.row
        injection e with _ e2 _
      have C1 := hid hC
      have HN := hid hN
      have Hxl := hid hC.two.u.len
      clear HR hC hp hN
      obtain ⟨wo, rfl⟩ : ∃ wo, wo = wr := ⟨_, rfl⟩
      have zN : (N : Int) ≤ 65536 := by have := Hxl.out; have := HN.out; omega
      go_wp2
      go_loopw [94] (fun i wr => ∃ (j : Nat) (F : List Nat), i = .int .i64 j ∧ j ≤ N ∧ Hid (OuC w wr q t F G p (xs.drop j) S b S.length (imap S) (.slice a6 N c6) xs)) (fun i _ => N - (intOf i).toNat)
      case atStart => exact ⟨0, F, rfl, Nat.zero_le _, by show OuC _ _ _ _ _ _ _ _ _ _ _ _ _ _; rw [List.drop_zero]; exact C1.out⟩
      case round =>
        clear C1
        obtain ⟨j, F1, rfl, hj, HR⟩ := hrel
        by_cases hjl : j < N
        · have zj : (j : Int) < (N : Int) := by omega
          have hjx : j < xs.length := by have := HN.out; omega
          obtain ⟨g6, c6', e6, _⟩ := HR.out.row.form (by omega)
          injection e6 with e61 e62 e63
          subst e61 e63
          clear e62
          have o1 : wr.cell? ⟨g6, j, none⟩ = some (.int .i64 xs[j]) := by
            refine own_cell (show wr.ownsRow w.heap.size 3 1 (.slice (some ⟨g6, 0, none⟩) xs.length c6) xs.length (ints xs) from by have := HR.out.row; rw [HN.out] at this; exact this) ?_
            unfold ints
            rw [List.getElem?_map, List.getElem?_eq_getElem hjx]
            rfl
          have HTk : Hid (Calls Try.prog 12 #[.pointer (some ⟨q, 0, none⟩)] wr fun e w' => e = .returned (.tuple #[.int .i64 xs[j], .bool true]) ∧ OuC w w' q t F1 G p (xs.drop (j + 1)) S b S.length (imap S) (.slice (some ⟨g6, 0, none⟩) N c6) xs) := by
            have hu := HR.out.two.u
            rw [List.drop_eq_getElem_cons hjx] at hu
            refine (utake_cons wr q F1 xs[j] (xs.drop (j + 1)) hu).mono ?_
            rintro e w' ⟨he, u, tt⟩
            exact ⟨he, HR.out.ustep u tt (Nf.refl _ _)⟩
          clear HR
          generalize xs[j] = y at *
          go_wp2_with (go_at_call 12; refine HTk.out.mono ?_; rintro e w2 ⟨rfl, c2⟩; have C2 := hid c2; clear c2)
          go_roundw
          case rel => exact ⟨j + 1, F1, by go_num, by omega, C2⟩
          case measure => simp [intOf]; omega
        · have zj : ¬ (j : Int) < (N : Int) := by omega
          have hje : xs.drop j = [] := List.drop_of_length_le (by have := HN.out; omega)
          have C2 := hid HR.out
          rw [hje] at C2
          clear HR hje
          obtain ⟨w4, rfl⟩ : ∃ w4, w4 = wr := ⟨_, rfl⟩
          go_wp2
          go_loopw [17] (fun s17 wr => ∃ (L : Int) (G : List Nat) (S : List Slot), s17 = .int .i64 L ∧ Hid (OuC w wr q t F1 G p [] S b S.length (imap S) (.slice a6 N c6) xs ∧ ∀ x ∈ S, L ≤ x.at_)) (fun _ wr => szT wr t)
          case atStart => exact ⟨0, G, S, rfl, C2.out, fun x hx => (C2.out.two.t.tk x hx).1⟩
          case round =>
            clear C2
            obtain ⟨L, G3, S3, rfl, HR⟩ := hrel
            cases S3 with
            | nil =>
              have HLn := hid (len26 wr t G3 p [] HR.out.1.two.t)
              have HTk := hid (utake_nil wr q F1 HR.out.1.two.u)
              have hlm := fun ty => HR.out.1.map.len (t := 51) Try.underlying51 ty
              simp only [List.length_nil] at hlm
              unfold PT at HLn HTk
              go_wp2_with (first
                | (go_at_call 26; refine HLn.out.mono ?_; rintro e w5 ⟨rfl, rfl⟩)
                | (go_at_call 12; refine HTk.out.mono ?_; rintro e w5 ⟨rfl, rfl⟩))
              go_ret
              exact ⟨rfl, HR.out.1.two.to⟩
            | cons x S3 =>
              obtain ⟨h0, h1⟩ := HR.out.1.two.t.tk x (by simp)
              have hL := HR.out.2 x (by simp)
              have hwx := (HR.out.1.two.t.wf x (by simp)).2.2
              have hnd := HR.out.1.two.t.nd
              have hsz : Hid (szT wr t = S3.length + 1) := by show _ = _; rw [HR.out.1.two.t.sz]; simp
              obtain ⟨LN, hLN⟩ : ∃ LN : Int, LN = ((x :: S3).length : Int) := ⟨_, rfl⟩
              have zLN : 0 < LN := by rw [hLN]; simp
              have HLn := hid (len26 wr t G3 p (x :: S3) HR.out.1.two.t)
              rw [← hLN] at HLn
              have HNx := hid (next27_cons wr t G3 p x S3 HR.out.1.two.t)
              have HT1 : Hid (∀ w1, OuC w w1 q t F1 G3 p [] (x :: S3) b (x :: S3).length (imap (x :: S3)) (.slice a6 N c6) xs → Calls Try.prog 21 #[.pointer (some ⟨t, 0, none⟩), .int .i64 (x.at_ - 1)] w1 fun e w' => e = .returned (.tuple #[.int .i64 0, .bool false]) ∧ Touch [] w1 w') := fun w1 h => take21_no w1 t G3 p (x :: S3) (x.at_ - 1) h.two.t (Or.inr (by rw [gt_zero_cons]; omega))
              have HT2 : Hid (∀ w1, OuC w w1 q t F1 G3 p [] (x :: S3) b (x :: S3).length (imap (x :: S3)) (.slice a6 N c6) xs → Calls Try.prog 21 #[.pointer (some ⟨t, 0, none⟩), .int .i64 x.at_] w1 fun e w' => e = .returned (.tuple #[.int .i64 x.item, .bool true]) ∧ ∃ G', OuC w w' q t F1 G' p [] S3 b (x :: S3).length (imap (x :: S3)) (.slice a6 N c6) xs) := fun w1 h => by
                refine (take21_yes w1 t G3 p x S3 x.at_ h.two.t (Int.le_refl _)).mono ?_
                rintro e w' ⟨he, G', u, tt, nn⟩
                exact ⟨he, G', h.tstep u tt nn⟩
              have HLk : Hid (∀ w1, MapAt w1 b (x :: S3).length (imap (x :: S3)) → (Instr.lookup 51 (.map (some b)) (.int .i64 x.item) true).run Try.prog w1 = .ok (.tuple #[.int .i64 x.at_, .bool true]) w1) := fun w1 h => by
                have := h.lookOk (t := 51) Try.underlying51 (zero2 w1) hwx
                rw [imap_head] at this
                exact this
              have HDl : Hid (∀ w1 G' ob, OuC w w1 q t F1 G' p [] S3 b (x :: S3).length (imap (x :: S3)) (.slice a6 N c6) xs → MapAt (setBlock w1 b ob) b (if (imap (x :: S3) x.item).isSome then (x :: S3).length - 1 else (x :: S3).length) (Ytonkclllofbklaa.del (imap (x :: S3)) x.item) → OuC w (setBlock w1 b ob) q t F1 G' p [] S3 b S3.length (imap S3) (.slice a6 N c6) xs) := fun w1 G' ob h hm => by
                refine h.mstep ?_ (touch_setBlock (Touch.refl _ _) (by simp) ob)
                rw [imap_head] at hm
                exact (hm.congr (fun k _ => imap_tail hnd k)).same (by simp)
              have HSr : Hid (∀ y ∈ S3, x.at_ ≤ y.at_) := fun y hy => by
                have := (List.pairwise_cons.1 HR.out.1.two.t.srt).1 y hy
                unfold ltS at this
                omega
              have HWx := hid hwx
              have C3 := hid HR.out.1
              unfold PT at HLn HNx
              clear hwx hnd hLN HR
              obtain ⟨M3, hM3⟩ : ∃ M3, M3 = imap (x :: S3) := ⟨_, rfl⟩
              obtain ⟨m3, hm3⟩ : ∃ m3, m3 = (x :: S3).length := ⟨_, rfl⟩
              rw [← hM3, ← hm3] at HT1 HT2 HLk HDl C3
              clear hM3 hm3
              obtain ⟨S4, hS4⟩ : ∃ S4, S4 = x :: S3 := ⟨_, rfl⟩
              rw [← hS4] at HT1 HT2 C3
              clear hS4
              generalize x.at_ = xa at *
              generalize x.item = xi at *
              obtain ⟨xb, hxb⟩ : ∃ xb, xa - 1 = xb := ⟨_, rfl⟩
              rw [hxb] at HT1
              go_wp2_with (first
                | (go_at_call 26; refine HLn.out.mono ?_; rintro e w5 ⟨rfl, rfl⟩)
                | (go_at_call 27; refine HNx.out.mono ?_; rintro e w5 ⟨rfl, t5⟩; have C5 := hid (C3.out.quiet t5); clear t5)
                | (go_at_call_of 21 (#[.pointer (some ⟨t, 0, none⟩), .int .i64 xb] : Array Value); refine (HT1.out _ C5.out).mono ?_; rintro e w6 ⟨rfl, t6⟩; have C6 := hid (C5.out.quiet t6); clear t6)
                | (go_at_call 21; refine (HT2.out _ C6.out).mono ?_; rintro e w7 ⟨rfl, G7, c7⟩; have C7 := hid c7; have hl7 := HLk.out w7 c7.map; clear c7)
                | (at_delete; refine wpList_mdel _ rfl _ _ 51 rfl 2 Try.underlying51 b m3 M3 rfl C7.out.map _ rfl HWx.out ?_; intro ob hM8; have C8 := hid (HDl.out w7 G7 ob C7.out hM8); clear hM8))
              generalize setBlock w7 b ob = w8 at *
              go_roundw
              case rel => exact ⟨xa, G7, S3, rfl, C8.out, HSr.out⟩
              case measure =>
                have e1 := hsz.out
                have e2 := C8.out.two.t.sz
                omega
end Go.Proofs.Ytonkclllofbklaa
