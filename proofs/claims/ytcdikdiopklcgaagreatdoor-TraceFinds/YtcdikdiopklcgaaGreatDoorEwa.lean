/- The law's trace of events, and those that stand in it; the condition is that the table holds what the start lays. -/
import Derived.Test.YtcdikdiopklcgaaGreatDoorEvy
namespace Go.Proofs.YtcdikdiopklcgaaGreatDoor.Tr
open Go.RowKit Go.Sort Go.Shelf Go.Maps Go.ChangeMaps
set_option linter.unusedVariables false
set_option linter.unusedSimpArgs false
theorem Rc.touch {w w' : World} {g p : Nat} {e : Ez} (h : Rc w g p e) (t : Touch [] w w') : Rc w' g p e :=
  ⟨tcell t h.c0, tcell t h.c1, tcell t h.c2, tcell t h.c3, tcell t h.c4, tcell t h.c5, tcell t h.c6, tcell t h.c7, tcell t h.c8, tcell t h.c9, tcell t h.c10, tcell t h.c11, tcell t h.c12⟩
/-- what stands in a trace behind one more event -/
def accL (L : List Ez) (e : Ez) : List Ez := if addN L e = 0 then L ++ [e] else L
def bl (l : List Ez) : List Ez := l.foldl accL []
theorem bl_snoc (l : List Ez) (i : Nat) (e : Ez) (h : l[i]? = some e) : bl (l.take (i + 1)) = accL (bl (l.take i)) e := by
  obtain ⟨hi, he⟩ := List.getElem?_eq_some_iff.1 h
  rw [List.take_succ_eq_append_getElem hi, he]
  unfold bl
  rw [List.foldl_append]
  rfl
/-- A trace, what stands in it beside, and the document's list. -/
structure Bt (w wr : World) (b : Nat) (v u z : Value) (L M N : List Ez) : Prop where
  t : Touch [] w wr
  q : Tq wr w.heap.size b v L
  hb : w.heap.size ≤ b
  ou : wr.ownsRow w.heap.size 40 13 u M.length (evs M)
  ha : wr.ownsRow w.heap.size 47 13 z N.length (evs N)
  ap : ∀ q, u.ownBlock = some q → v.ownBlock ≠ some q
theorem kind_ne {w : World} {B e k n g : Nat} {u : Value} {xs : List Value} {cs : Array Value} {t : TypeId} {fz : Nat × Nat} (h : w.ownsRow B e k u n xs) (hb : w.heap[g]? = some (.cells cs t fz)) (hn : e ≠ t) : u.ownBlock ≠ some g := fun he => by
  obtain ⟨cs', hc⟩ := own_kind h he
  rw [hb] at hc
  simp only [Option.some.injEq, Obj.cells.injEq] at hc
  exact hn hc.2.1.symm
section
variable {w W w' : World} {b n : Nat} {v u z u' : Value} {L M N : List Ez} {e : Ez}
theorem Bt.touch0 (h : Bt w W b v u z L M N) (t : Touch [] W w') : Bt w w' b v u z L M N := ⟨h.t.trans' t, h.q.touch0 t, h.hb, own_touch h.ou t (by simp), own_touch h.ha t (by simp), h.ap⟩
theorem Bt.ouT (h : Bt w W b v u z L M N) (g : W.grownBy w' u.ownBlock) : Touch u.ownBlock.toList W w' := (Touch.refl _ _).grown g (fun q hq => Or.inl (by simp [hq]))
theorem Bt.haT (h : Bt w W b v u z L M N) (g : W.grownBy w' z.ownBlock) : Touch z.ownBlock.toList W w' := (Touch.refl _ _).grown g (fun q hq => Or.inl (by simp [hq]))
theorem Bt.add (h : Bt w W b v u z L M N) (p : AddP w' W w.heap.size b v L e) : ∃ v', Bt w w' b v' u z (L ++ [e]) M N := by
  obtain ⟨v', q', t', p'⟩ := p
  refine ⟨v', h.t.trans t' (fun i hi => Or.inr ?_), q', h.hb, own_touch h.ou t' (fun q hq hm => ?_), own_touch h.ha t' (fun q hq hm => ?_), fun q hq hv => ?_⟩
  · rcases List.mem_cons.1 hi with rfl | hi
    · exact h.hb
    · exact (h.q.ow.lt i (Option.mem_toList.1 hi)).1
  · rcases List.mem_cons.1 hm with rfl | hm
    · exact kind_ne h.ou h.q.bx (by decide) hq
    · exact h.ap q hq (Option.mem_toList.1 hm)
  · rcases List.mem_cons.1 hm with rfl | hm
    · exact kind_ne h.ha h.q.bx (by decide) hq
    · obtain ⟨cs, hc⟩ := own_kind h.q.ow (Option.mem_toList.1 hm)
      exact kind_ne h.ha hc (by decide) hq
  · rcases p' q hv with hv | hv
    · exact h.ap q hq hv
    · have := (h.ou.lt q hq).2
      omega
theorem Bt.outApp (h : Bt w W b v u z L M N) (o : w'.ownsRow w.heap.size 40 13 u' (M.length + 1) (evs M ++ #[.int .i64 e.at_, .int .i64 e.kd, .int .i64 e.cl, .int .i64 e.ca, .int .i64 e.ru, .int .i64 e.ge, .int .i64 e.ho, .int .u16 e.sp, .string e.nm, .int .i64 e.va, .int .i64 e.fk, .int .i64 e.fc, .int .i64 e.fr].toList)) (g : W.grownBy w' u.ownBlock) (p : u'.ownBlock = u.ownBlock ∨ u'.ownBlock = some W.heap.size) : Bt w w' b v u' z L (M ++ [e]) N := by
  have tg := h.ouT g
  refine ⟨touch_grown h.t g h.ou (Nat.le_refl _), h.q.touch tg (fun hm => kind_ne h.ou h.q.bx (by decide) (Option.mem_toList.1 hm)) (fun q hq hm => h.ap q (Option.mem_toList.1 hm) hq), h.hb, ?_, own_touch h.ha tg (fun q hq hm => ?_), fun q hq hv => ?_⟩
  · rw [evs_snoc, List.length_append]; exact o
  · obtain ⟨cs, hc⟩ := own_kind h.ou (Option.mem_toList.1 hm)
    exact kind_ne h.ha hc (by decide) hq
  · rcases p with p | p
    · exact h.ap q (p ▸ hq) hv
    · rw [p] at hq
      have := (h.q.ow.lt q hv).2
      simp only [Option.some.injEq] at hq
      omega
theorem Bt.hadApp (h : Bt w W b v u z L M N) (o : w'.ownsRow w.heap.size 47 13 u' (N.length + 1) (evs N ++ #[.int .i64 e.at_, .int .i64 e.kd, .int .i64 e.cl, .int .i64 e.ca, .int .i64 e.ru, .int .i64 e.ge, .int .i64 e.ho, .int .u16 e.sp, .string e.nm, .int .i64 e.va, .int .i64 e.fk, .int .i64 e.fc, .int .i64 e.fr].toList)) (g : W.grownBy w' z.ownBlock) (p : u'.ownBlock = z.ownBlock ∨ u'.ownBlock = some W.heap.size) : Bt w w' b v u u' L M (N ++ [e]) := by
  have tg := h.haT g
  have hz : ∀ q B t (x : Value) (k n : Nat) (xs : List Value), W.ownsRow B t k x n xs → t ≠ 47 → x.ownBlock = some q → ¬ q ∈ z.ownBlock.toList := fun q B t x k n xs hx ht hq hm => by
    obtain ⟨cs, hc⟩ := own_kind hx hq
    exact kind_ne h.ha hc (fun e => ht e.symm) (Option.mem_toList.1 hm)
  refine ⟨touch_grown h.t g h.ha (Nat.le_refl _), h.q.touch tg (fun hm => kind_ne h.ha h.q.bx (by decide) (Option.mem_toList.1 hm)) (fun q hq => hz q _ _ _ _ _ _ h.q.ow (by decide) hq), h.hb, own_touch h.ou tg (fun q hq => hz q _ _ _ _ _ _ h.ou (by decide) hq), ?_, h.ap⟩
  rw [evs_snoc, List.length_append]; exact o
end
def BuQ (r : Ending) (w w' : World) (l : List Ez) : Prop := ∃ b v a n c z, r = .returned (.tuple #[PT b, .slice a n c, .bool true]) ∧ (bl l).length = n ∧ Bt w w' b v (.slice a n c) z (bl l) (bl l) (bl l)
set_option maxHeartbeats 8000000 in
set_option maxRecDepth 20000 in
theorem built_ (w : World) (a0 : Option Addr) (m : Nat) (l : List Ez) (hx : ∀ i e, l[i]? = some e → ∃ g off, a0 = some ⟨g, off, none⟩ ∧ Rc w g (off + i * 13) e) (hok : ∀ e ∈ l, e.nm.size ≤ maxLen) (hl : l.length ≤ 2000000000000) (hk : Tk w) :
    Calls Tryz.prog 4 #[.slice a0 l.length m] w fun r w' => BuQ r w w' l := by
  have HX := hid hx
  have HOK := hid hok
  have HK := hid hk
  have HLl := hid hl
  have HNew := hid (new_ w)
  obtain ⟨b, hb⟩ : ∃ b, b = w.heap.size := ⟨_, rfl⟩
  have I0 : Hid (Bt w (((w.alloc (.cells #[.slice none 0 0] 79)).alloc (.cells #[] 40)).alloc (.cells #[] 47)) b (.slice none 0 0) (.slice (some ⟨w.heap.size + 1, 0, none⟩) 0 0) (.slice (some ⟨w.heap.size + 1 + 1, 0, none⟩) 0 0) [] [] []) := by
    have t1 : Touch [] w (w.alloc (.cells #[.slice none 0 0] 79)) := (Touch.refl [] w).alloc _
    have t2 : Touch [] (w.alloc (.cells #[.slice none 0 0] 79)) (((w.alloc (.cells #[.slice none 0 0] 79)).alloc (.cells #[] 40)).alloc (.cells #[] 47)) := ((Touch.refl [] _).alloc _).alloc _
    refine ⟨t1.trans' t2, ⟨?_, ⟨rfl, Or.inl ⟨rfl, rfl⟩⟩, Nat.zero_le _⟩, by omega, ?_, ?_, fun q hq e => by cases e⟩
    · rw [hb]; exact t2.keep (heap_alloc_new w _) (by simp)
    · have h1 := World.ownsRow_made (e := 40) (size := 13) (w.alloc (.cells #[.slice none 0 0] 79)) #[] 0 (base := w.heap.size) (by simp) (by unfold maxLen; omega) rfl
      rw [World.size_alloc] at h1
      exact own_touch h1 ((Touch.refl [] _).alloc _) (by simp)
    · have h1 := World.ownsRow_made (e := 47) (size := 13) ((w.alloc (.cells #[.slice none 0 0] 79)).alloc (.cells #[] 40)) #[] 0 (base := w.heap.size) (by simp; omega) (by unfold maxLen; omega) rfl
      rw [World.size_alloc, World.size_alloc] at h1
      exact h1
  obtain ⟨NL, hNL⟩ : ∃ NL : Int, (l.length : Int) = NL := ⟨_, rfl⟩
  have HNL := hid hNL
  have hNb : NL ≤ 2000000000000 := by omega
  unfold PT at HNew
  rw [← hb] at HNew
  clear hx hok hk hl

  go_enter Tryz.func4, Tryz.ntmps4
  go_wp2_with fail
  refine Calls.mono HNew.out ?_
  rintro r w1 ⟨rfl, e1⟩
  rw [e1]
  clear e1 w1 HNew
  have HB := hid hb
  clear hb
  go_wp2_with fail
  generalize ((w.alloc (.cells #[.slice none 0 0] 79)).alloc (.cells #[] 40)).alloc (.cells #[] 47) = V0 at I0 ⊢
  go_loopw [6, 7, 16] (fun u z i wr => ∃ (j : Nat) (a : Option Addr) (c n : Nat) (a' : Option Addr) (c' : Nat), i = .int .i64 j ∧ j ≤ l.length ∧ u = .slice a n c ∧ z = .slice a' n c' ∧ Hid (n = (bl (l.take j)).length) ∧ Hid (∃ v, Bt w wr b v (.slice a n c) (.slice a' n c') (bl (l.take j)) (bl (l.take j)) (bl (l.take j)))) (fun _ _ i _ => l.length - (intOf i).toNat)
  case atStart => exact ⟨0, _, _, 0, _, _, rfl, Nat.zero_le _, rfl, rfl, rfl, _, I0.out⟩
  case round =>
    clear I0
    obtain ⟨j, a, c, n, a', c', rfl, hj, rfl, rfl, HN, HI⟩ := hrel
    by_cases hlt : j < l.length
    · obtain ⟨e, he⟩ : ∃ e, l[j]? = some e := ⟨_, List.getElem?_eq_getElem hlt⟩
      have hz : (j : Int) < NL := by omega
      obtain ⟨v, hI⟩ := HI.out
      obtain ⟨g, off, rfl, hR⟩ := HX.out j e he
      obtain ⟨c0, c1, c2, c3, c4, c5, c6, c7, c8, c9, c10, c11, c12⟩ := hR.touch hI.t
      have hs : e.nm.size ≤ maxLen := HOK.out e (List.mem_of_getElem? he)
      have HSn := bl_snoc l j e he
      obtain ⟨L, hL⟩ : ∃ L, L = bl (l.take j) := ⟨_, rfl⟩
      rw [← hL] at hI HSn
      have hn : L.length = n := by rw [hL]; exact HN.out.symm
      have HG := hid (fun w' => given_ e w')
      have HR : Hid (∀ w', Touch [] wr w' → Calls Tryz.prog 19 #[.slice a' n c', e.val] w' fun r w'' => r = .returned (.int .i64 (addN L e)) ∧ Touch [] w' w'') := hid (fun w' t => radd_ (hI.touch0 t).ha hI.q.le e hs)
      have HA : Hid (∀ w', Touch [] wr w' → Calls Tryz.prog 20 #[PT b, e.val] w' fun r w'' => AddQ r w'' w' w.heap.size b v L e) := hid (fun w' t => add_ (hI.touch0 t).q hI.hb e (HK.out.touch (hI.t.trans' t)) hs)
      have IB : Hid (∀ w', Touch [] (wr.alloc (.cells #[.int .i64 e.at_, .int .i64 e.kd, .int .i64 e.cl, .int .i64 e.ca, .int .i64 e.ru, .int .i64 e.ge, .int .i64 e.ho, .int .u16 e.sp, .string e.nm, .int .i64 e.va, .int .i64 e.fk, .int .i64 e.fc, .int .i64 e.fr] 40)) w' → Ib w' wr.heap.size e) := hid (fun w' t => (Ib.new wr e 40).touch t)
      have hB := hid hI
      have HnL := hid hn
      have HLe := hid hI.q.le
      have TA : Hid (Touch [] wr (wr.alloc (.cells #[.int .i64 e.at_, .int .i64 e.kd, .int .i64 e.cl, .int .i64 e.ca, .int .i64 e.ru, .int .i64 e.ge, .int .i64 e.ho, .int .u16 e.sp, .string e.nm, .int .i64 e.va, .int .i64 e.fk, .int .i64 e.fc, .int .i64 e.fr] 40))) := (Touch.refl [] wr).alloc _
      clear hI hR HI HN hs hL hn he
      unfold Ez.val PT at *
      go_wp2_with fail
      refine (HG.out _).mono ?_
      rintro r w1 ⟨rfl, t1⟩
      have T1 : Hid (Touch [] (wr.alloc (.cells #[.int .i64 e.at_, .int .i64 e.kd, .int .i64 e.cl, .int .i64 e.ca, .int .i64 e.ru, .int .i64 e.ge, .int .i64 e.ho, .int .u16 e.sp, .string e.nm, .int .i64 e.va, .int .i64 e.fk, .int .i64 e.fc, .int .i64 e.fr] 40)) w1) := t1
      clear t1 c0 c1 c2 c3 c4 c5 c6 c7 c8 c9 c10 c11 c12
      go_wp2_with fail
      refine (HR.out _ (TA.out.trans' T1.out)).mono ?_
      rintro r w2 ⟨rfl, t2⟩
      have T2 : Hid (Touch [] (wr.alloc (.cells #[.int .i64 e.at_, .int .i64 e.kd, .int .i64 e.cl, .int .i64 e.ca, .int .i64 e.ru, .int .i64 e.ge, .int .i64 e.ho, .int .u16 e.sp, .string e.nm, .int .i64 e.va, .int .i64 e.fk, .int .i64 e.fc, .int .i64 e.fr] 40)) w2) := T1.out.trans' t2
      clear t2 T1 HR
      obtain ⟨c0, c1, c2, c3, c4, c5, c6, c7, c8, c9, c10, c11, c12⟩ := IB.out _ T2.out
      go_wp2_with fail
      refine (HA.out _ (TA.out.trans' T2.out)).mono ?_
      rintro r w3 ⟨rfl, h3⟩
      have H3 := hid h3
      clear h3 HA c0 c1 c2 c3 c4 c5 c6 c7 c8 c9 c10 c11 c12
      by_cases hF : addN L e = 0
      · have P3 : AddP w3 w2 w.heap.size b v L e := by
          rcases H3.out with h | h
          · exact absurd hF h.1
          · exact h.2
        have HS : Hid (n + 1 = (bl (l.take (j + 1))).length) := by show n + 1 = _; rw [HSn, accL, if_pos hF, List.length_append, HnL.out]; rfl
        have HFIN : Hid (∀ W v u z, Bt w W b v u z (L ++ [e]) (L ++ [e]) (L ++ [e]) → Hid (∃ v, Bt w W b v u z (bl (l.take (j + 1))) (bl (l.take (j + 1))) (bl (l.take (j + 1))))) := hid (fun W v u z h => ⟨v, by rw [HSn, accL, if_pos hF]; exact h⟩)
        have B3 : w3.heap[wr.heap.size]? = some (.cells #[.int .i64 e.at_, .int .i64 e.kd, .int .i64 e.cl, .int .i64 e.ca, .int .i64 e.ru, .int .i64 e.ge, .int .i64 e.ho, .int .u16 e.sp, .string e.nm, .int .i64 e.va, .int .i64 e.fk, .int .i64 e.fc, .int .i64 e.fr] 40 (0, 0)) := by
          have h2 : w2.heap[wr.heap.size]? = some (.cells #[.int .i64 e.at_, .int .i64 e.kd, .int .i64 e.cl, .int .i64 e.ca, .int .i64 e.ru, .int .i64 e.ge, .int .i64 e.ho, .int .u16 e.sp, .string e.nm, .int .i64 e.va, .int .i64 e.fk, .int .i64 e.fc, .int .i64 e.fr] 40 (0, 0)) := T2.out.keep (heap_alloc_new wr _) (by simp)
          obtain ⟨v', q', t', p'⟩ := P3
          refine t'.keep h2 (fun hm => ?_)
          have hz2 := (hB.out.q.lt)
          rcases List.mem_cons.1 hm with e1 | hm
          · omega
          · have := (hB.out.q.ow.lt _ (Option.mem_toList.1 hm)).2
            omega
        have HU : Hid (∀ q, (Value.slice a n c).ownBlock = some q → q ≠ wr.heap.size) := hid (fun q hq => by have := (hB.out.ou.lt q hq).2; omega)
        have HZ : Hid (∀ q, (Value.slice a' n c').ownBlock = some q → q ≠ wr.heap.size) := hid (fun q hq => by have := (hB.out.ha.lt q hq).2; omega)
        obtain ⟨v1, Q3⟩ := (hB.out.touch0 (TA.out.trans' T2.out)).add P3
        have HQ3 := hid Q3
        have HLn : Hid (n < 1048576) := by
          have := Q3.q.le
          rw [List.length_append, HnL.out] at this
          show n < 1048576
          simp at this
          omega
        clear H3 P3 hB HSn TA T2 IB Q3 HLe
        rw [hF]
        clear hF
        obtain ⟨k0, hk0⟩ : ∃ k0, k0 = wr.heap.size := ⟨_, rfl⟩
        rw [← hk0] at B3 HU HZ ⊢
        clear hk0
        have HB3 := hid B3
        clear B3
        go_upto_region 10 with fail
        have S0' : w3.drew.heap[k0]? = some (.cells #[.int .i64 e.at_, .int .i64 e.kd, .int .i64 e.cl, .int .i64 e.ca, .int .i64 e.ru, .int .i64 e.ge, .int .i64 e.ho, .int .u16 e.sp, .string e.nm, .int .i64 e.va, .int .i64 e.fk, .int .i64 e.fc, .int .i64 e.fr] 40 (0, 0)) := HB3.out
        have Q0' : Bt w w3.drew b v1 (.slice a n c) (.slice a' n c') (L ++ [e]) L L := HQ3.out.touch0 ((Touch.refl [] w3).drew)
        refine wp_region_H (S := fun w' => w'.heap[k0]? = some (.cells #[.int .i64 e.at_, .int .i64 e.kd, .int .i64 e.cl, .int .i64 e.ca, .int .i64 e.ru, .int .i64 e.ge, .int .i64 e.ho, .int .u16 e.sp, .string e.nm, .int .i64 e.va, .int .i64 e.fk, .int .i64 e.fc, .int .i64 e.fr] 40 (0, 0))) (by kernel_rfl) ?_
        generalize w3.drew = W0 at *
        have S0 := S0'
        have Q0 := hid Q0'
        clear S0' Q0' HB3 HQ3
        have F0 : ∀ w' : World, (w'.heap[k0]? = some (.cells #[.int .i64 e.at_, .int .i64 e.kd, .int .i64 e.cl, .int .i64 e.ca, .int .i64 e.ru, .int .i64 e.ge, .int .i64 e.ho, .int .u16 e.sp, .string e.nm, .int .i64 e.va, .int .i64 e.fk, .int .i64 e.fc, .int .i64 e.fr] 40 (0, 0))) → w'.cell? ⟨k0, 0, none⟩ = some (.int .i64 e.at_) := fun w' h => cell_at h rfl
        have F1 : ∀ w' : World, (w'.heap[k0]? = some (.cells #[.int .i64 e.at_, .int .i64 e.kd, .int .i64 e.cl, .int .i64 e.ca, .int .i64 e.ru, .int .i64 e.ge, .int .i64 e.ho, .int .u16 e.sp, .string e.nm, .int .i64 e.va, .int .i64 e.fk, .int .i64 e.fc, .int .i64 e.fr] 40 (0, 0))) → w'.cell? ⟨k0, 1, none⟩ = some (.int .i64 e.kd) := fun w' h => cell_at h rfl
        have F2 : ∀ w' : World, (w'.heap[k0]? = some (.cells #[.int .i64 e.at_, .int .i64 e.kd, .int .i64 e.cl, .int .i64 e.ca, .int .i64 e.ru, .int .i64 e.ge, .int .i64 e.ho, .int .u16 e.sp, .string e.nm, .int .i64 e.va, .int .i64 e.fk, .int .i64 e.fc, .int .i64 e.fr] 40 (0, 0))) → w'.cell? ⟨k0, 2, none⟩ = some (.int .i64 e.cl) := fun w' h => cell_at h rfl
        have F3 : ∀ w' : World, (w'.heap[k0]? = some (.cells #[.int .i64 e.at_, .int .i64 e.kd, .int .i64 e.cl, .int .i64 e.ca, .int .i64 e.ru, .int .i64 e.ge, .int .i64 e.ho, .int .u16 e.sp, .string e.nm, .int .i64 e.va, .int .i64 e.fk, .int .i64 e.fc, .int .i64 e.fr] 40 (0, 0))) → w'.cell? ⟨k0, 3, none⟩ = some (.int .i64 e.ca) := fun w' h => cell_at h rfl
        have F4 : ∀ w' : World, (w'.heap[k0]? = some (.cells #[.int .i64 e.at_, .int .i64 e.kd, .int .i64 e.cl, .int .i64 e.ca, .int .i64 e.ru, .int .i64 e.ge, .int .i64 e.ho, .int .u16 e.sp, .string e.nm, .int .i64 e.va, .int .i64 e.fk, .int .i64 e.fc, .int .i64 e.fr] 40 (0, 0))) → w'.cell? ⟨k0, 4, none⟩ = some (.int .i64 e.ru) := fun w' h => cell_at h rfl
        have F5 : ∀ w' : World, (w'.heap[k0]? = some (.cells #[.int .i64 e.at_, .int .i64 e.kd, .int .i64 e.cl, .int .i64 e.ca, .int .i64 e.ru, .int .i64 e.ge, .int .i64 e.ho, .int .u16 e.sp, .string e.nm, .int .i64 e.va, .int .i64 e.fk, .int .i64 e.fc, .int .i64 e.fr] 40 (0, 0))) → w'.cell? ⟨k0, 5, none⟩ = some (.int .i64 e.ge) := fun w' h => cell_at h rfl
        have F6 : ∀ w' : World, (w'.heap[k0]? = some (.cells #[.int .i64 e.at_, .int .i64 e.kd, .int .i64 e.cl, .int .i64 e.ca, .int .i64 e.ru, .int .i64 e.ge, .int .i64 e.ho, .int .u16 e.sp, .string e.nm, .int .i64 e.va, .int .i64 e.fk, .int .i64 e.fc, .int .i64 e.fr] 40 (0, 0))) → w'.cell? ⟨k0, 6, none⟩ = some (.int .i64 e.ho) := fun w' h => cell_at h rfl
        have F7 : ∀ w' : World, (w'.heap[k0]? = some (.cells #[.int .i64 e.at_, .int .i64 e.kd, .int .i64 e.cl, .int .i64 e.ca, .int .i64 e.ru, .int .i64 e.ge, .int .i64 e.ho, .int .u16 e.sp, .string e.nm, .int .i64 e.va, .int .i64 e.fk, .int .i64 e.fc, .int .i64 e.fr] 40 (0, 0))) → w'.cell? ⟨k0, 7, none⟩ = some (.int .u16 e.sp) := fun w' h => cell_at h rfl
        have F8 : ∀ w' : World, (w'.heap[k0]? = some (.cells #[.int .i64 e.at_, .int .i64 e.kd, .int .i64 e.cl, .int .i64 e.ca, .int .i64 e.ru, .int .i64 e.ge, .int .i64 e.ho, .int .u16 e.sp, .string e.nm, .int .i64 e.va, .int .i64 e.fk, .int .i64 e.fc, .int .i64 e.fr] 40 (0, 0))) → w'.cell? ⟨k0, 8, none⟩ = some (.string e.nm) := fun w' h => cell_at h rfl
        have F9 : ∀ w' : World, (w'.heap[k0]? = some (.cells #[.int .i64 e.at_, .int .i64 e.kd, .int .i64 e.cl, .int .i64 e.ca, .int .i64 e.ru, .int .i64 e.ge, .int .i64 e.ho, .int .u16 e.sp, .string e.nm, .int .i64 e.va, .int .i64 e.fk, .int .i64 e.fc, .int .i64 e.fr] 40 (0, 0))) → w'.cell? ⟨k0, 9, none⟩ = some (.int .i64 e.va) := fun w' h => cell_at h rfl
        have F10 : ∀ w' : World, (w'.heap[k0]? = some (.cells #[.int .i64 e.at_, .int .i64 e.kd, .int .i64 e.cl, .int .i64 e.ca, .int .i64 e.ru, .int .i64 e.ge, .int .i64 e.ho, .int .u16 e.sp, .string e.nm, .int .i64 e.va, .int .i64 e.fk, .int .i64 e.fc, .int .i64 e.fr] 40 (0, 0))) → w'.cell? ⟨k0, 10, none⟩ = some (.int .i64 e.fk) := fun w' h => cell_at h rfl
        have F11 : ∀ w' : World, (w'.heap[k0]? = some (.cells #[.int .i64 e.at_, .int .i64 e.kd, .int .i64 e.cl, .int .i64 e.ca, .int .i64 e.ru, .int .i64 e.ge, .int .i64 e.ho, .int .u16 e.sp, .string e.nm, .int .i64 e.va, .int .i64 e.fk, .int .i64 e.fc, .int .i64 e.fr] 40 (0, 0))) → w'.cell? ⟨k0, 11, none⟩ = some (.int .i64 e.fc) := fun w' h => cell_at h rfl
        have F12 : ∀ w' : World, (w'.heap[k0]? = some (.cells #[.int .i64 e.at_, .int .i64 e.kd, .int .i64 e.cl, .int .i64 e.ca, .int .i64 e.ru, .int .i64 e.ge, .int .i64 e.ho, .int .u16 e.sp, .string e.nm, .int .i64 e.va, .int .i64 e.fk, .int .i64 e.fc, .int .i64 e.fr] 40 (0, 0))) → w'.cell? ⟨k0, 12, none⟩ = some (.int .i64 e.fr) := fun w' h => cell_at h rfl
        refine wpH_take (i := 0) (v := (.slice a n c)) (some 33) rfl rfl (by kernel_rfl) (by kernel_rfl) (by kernel_rfl) (fun _ _ _ h => h) (Or.inl ⟨by rfl, fun w' hS => (by go_simp)⟩) S0 ?_
        try simp only [Go.Act.put, List.setIfInBounds_toArray, List.set_cons_zero, List.set_cons_succ]
        refine wpH_take (i := 1) (v := (.agg #[.int .i64 e.at_, .int .i64 e.kd, .int .i64 e.cl, .int .i64 e.ca, .int .i64 e.ru, .int .i64 e.ge, .int .i64 e.ho, .int .u16 e.sp, .string e.nm, .int .i64 e.va, .int .i64 e.fk, .int .i64 e.fc, .int .i64 e.fr])) (some 34) rfl rfl (by kernel_rfl) (by kernel_rfl) (by kernel_rfl) (fun _ _ _ h => h) (Or.inl ⟨by rfl, fun w' hS => (by have z0 := F0 _ hS; have z1 := F1 _ hS; have z2 := F2 _ hS; have z3 := F3 _ hS; have z4 := F4 _ hS; have z5 := F5 _ hS; have z6 := F6 _ hS; have z7 := F7 _ hS; have z8 := F8 _ hS; have z9 := F9 _ hS; have z10 := F10 _ hS; have z11 := F11 _ hS; have z12 := F12 _ hS; go_simp)⟩) S0 ?_
        try simp only [Go.Act.put, List.setIfInBounds_toArray, List.set_cons_zero, List.set_cons_succ]
        refine wpH_take (i := 4) (v := (.slice a' n c')) (some 37) rfl rfl (by kernel_rfl) (by kernel_rfl) (by kernel_rfl) (fun _ _ _ h => h) (Or.inl ⟨by rfl, fun w' hS => (by go_simp)⟩) S0 ?_
        try simp only [Go.Act.put, List.setIfInBounds_toArray, List.set_cons_zero, List.set_cons_succ]
        refine wpH_take (i := 5) (v := (.agg #[.int .i64 e.at_, .int .i64 e.kd, .int .i64 e.cl, .int .i64 e.ca, .int .i64 e.ru, .int .i64 e.ge, .int .i64 e.ho, .int .u16 e.sp, .string e.nm, .int .i64 e.va, .int .i64 e.fk, .int .i64 e.fc, .int .i64 e.fr])) (some 38) rfl rfl (by kernel_rfl) (by kernel_rfl) (by kernel_rfl) (fun _ _ _ h => h) (Or.inl ⟨by rfl, fun w' hS => (by have z0 := F0 _ hS; have z1 := F1 _ hS; have z2 := F2 _ hS; have z3 := F3 _ hS; have z4 := F4 _ hS; have z5 := F5 _ hS; have z6 := F6 _ hS; have z7 := F7 _ hS; have z8 := F8 _ hS; have z9 := F9 _ hS; have z10 := F10 _ hS; have z11 := F11 _ hS; have z12 := F12 _ hS; go_simp)⟩) S0 ?_
        try simp only [Go.Act.put, List.setIfInBounds_toArray, List.set_cons_zero, List.set_cons_succ]
        refine wpH_call (i := 2) (o := { dst := some 35, op := Op.buildSlice 22 1 #[(0, Operand.tmp 34)], type := 22, pos := _, after := #[{ on := 1, ground := Ground.data }], guard := none }) (by kernel_rfl) rfl (fun K' hK => ?_)
        rw [if_pos (by rfl)]
        go_simp
        have tb1 : Touch [] W0 (W0.alloc (.cells #[.int .i64 e.at_, .int .i64 e.kd, .int .i64 e.cl, .int .i64 e.ca, .int .i64 e.ru, .int .i64 e.ge, .int .i64 e.ho, .int .u16 e.sp, .string e.nm, .int .i64 e.va, .int .i64 e.fk, .int .i64 e.fc, .int .i64 e.fr] 40)) := (Touch.refl _ _).alloc _
        have S1 := tb1.keep S0 (by simp)
        have Q1 := hid (Q0.out.touch0 tb1)
        have N1 := hid (Rs.new W0 #[.int .i64 e.at_, .int .i64 e.kd, .int .i64 e.cl, .int .i64 e.ca, .int .i64 e.ru, .int .i64 e.ge, .int .i64 e.ho, .int .u16 e.sp, .string e.nm, .int .i64 e.va, .int .i64 e.fk, .int .i64 e.fc, .int .i64 e.fr] 40 13 rfl)
        obtain ⟨X1, hX1⟩ : ∃ X, X = W0.alloc (.cells #[.int .i64 e.at_, .int .i64 e.kd, .int .i64 e.cl, .int .i64 e.ca, .int .i64 e.ru, .int .i64 e.ge, .int .i64 e.ho, .int .u16 e.sp, .string e.nm, .int .i64 e.va, .int .i64 e.fk, .int .i64 e.fc, .int .i64 e.fr] 40) := ⟨_, rfl⟩
        rw [← hX1] at S1 Q1 N1 ⊢
        clear tb1 hX1
        refine hK.out _ _ S1 ?_
        clear hK
        try simp only [Go.Act.put, List.setIfInBounds_toArray, List.set_cons_zero, List.set_cons_succ]
        refine wpH_call (i := 3) (o := { dst := some 36, op := Op.call { callee := Callee.builtin Builtin.append, args := #[Operand.tmp 33, Operand.tmp 35], argTypes := #[22, 22] }, type := 22, pos := _, after := #[{ on := 0, ground := Ground.data }, { on := 2, ground := Ground.data }], guard := none }) (by kernel_rfl) rfl (fun K' hK => ?_)
        rw [if_pos (by rfl)]
        refine wp_append_rs _ _ 22 40 rfl _ 13 112 infoE Tryz.underlying22 rfl (by decide) w.heap.size (.slice a n c) n (evs L) rfl (HnL.out ▸ Q1.out.ou) (.slice (some ⟨W0.heap.size, 0, none⟩) 1 1) 1 _ rfl N1.out (by simp [Value.oneCell']) (by have := HLn.out; unfold maxLen; omega) (by have := HLn.out; omega) Q1.out.t.size ?_
        intro v8 w8 o8 gr8 p8
        have t8 := (Q1.out.ouT gr8)
        have S8 := t8.keep S1 (fun hm => HU.out _ (Option.mem_toList.1 hm) rfl)
        obtain ⟨a8, c8, e8⟩ := own_form o8
        subst e8
        have Q8 := hid (Q1.out.outApp (e := e) (HnL.out ▸ o8) gr8 p8)
        clear o8 gr8 p8 t8
        refine hK.out _ _ S8 ?_
        clear hK
        try simp only [Go.Act.put, List.setIfInBounds_toArray, List.set_cons_zero, List.set_cons_succ]
        refine wpH_call (i := 6) (o := { dst := some 39, op := Op.call { callee := Callee.value (Operand.func 7), args := #[Operand.tmp 38], argTypes := #[40] }, type := 47, pos := _, after := #[{ on := 5, ground := Ground.data }, { on := 3, ground := Ground.chain }], guard := none }) (by kernel_rfl) rfl (fun K' hK => ?_)
        rw [if_pos (by rfl)]
        go_simp
        refine (HG.out _).mono ?_
        rintro r w7 ⟨rfl, t7⟩
        have S7 := t7.keep S8 (by simp)
        have Q7 := hid (Q8.out.touch0 t7)
        clear t7
        refine hK.out _ _ S7 ?_
        clear hK
        try simp only [Go.Act.put, List.setIfInBounds_toArray, List.set_cons_zero, List.set_cons_succ]
        refine wpH_call (i := 7) (o := { dst := some 40, op := Op.buildSlice 60 1 #[(0, Operand.tmp 39)], type := 60, pos := _, after := #[{ on := 6, ground := Ground.data }], guard := none }) (by kernel_rfl) rfl (fun K' hK => ?_)
        rw [if_pos (by rfl)]
        go_simp
        have tb2 : Touch [] w7 (w7.alloc (.cells #[.int .i64 e.at_, .int .i64 e.kd, .int .i64 e.cl, .int .i64 e.ca, .int .i64 e.ru, .int .i64 e.ge, .int .i64 e.ho, .int .u16 e.sp, .string e.nm, .int .i64 e.va, .int .i64 e.fk, .int .i64 e.fc, .int .i64 e.fr] 47)) := (Touch.refl _ _).alloc _
        have S2 := tb2.keep S7 (by simp)
        have Q2 := hid (Q7.out.touch0 tb2)
        have N2 := hid (Rs.new w7 #[.int .i64 e.at_, .int .i64 e.kd, .int .i64 e.cl, .int .i64 e.ca, .int .i64 e.ru, .int .i64 e.ge, .int .i64 e.ho, .int .u16 e.sp, .string e.nm, .int .i64 e.va, .int .i64 e.fk, .int .i64 e.fc, .int .i64 e.fr] 47 13 rfl)
        obtain ⟨X2, hX2⟩ : ∃ X, X = w7.alloc (.cells #[.int .i64 e.at_, .int .i64 e.kd, .int .i64 e.cl, .int .i64 e.ca, .int .i64 e.ru, .int .i64 e.ge, .int .i64 e.ho, .int .u16 e.sp, .string e.nm, .int .i64 e.va, .int .i64 e.fk, .int .i64 e.fc, .int .i64 e.fr] 47) := ⟨_, rfl⟩
        rw [← hX2] at S2 Q2 N2 ⊢
        clear tb2 hX2
        refine hK.out _ _ S2 ?_
        clear hK
        try simp only [Go.Act.put, List.setIfInBounds_toArray, List.set_cons_zero, List.set_cons_succ]
        refine wpH_call (i := 8) (o := { dst := some 41, op := Op.call { callee := Callee.builtin Builtin.append, args := #[Operand.tmp 37, Operand.tmp 40], argTypes := #[60, 60] }, type := 60, pos := _, after := #[{ on := 4, ground := Ground.data }, { on := 7, ground := Ground.data }, { on := 6, ground := Ground.chain }], guard := none }) (by kernel_rfl) rfl (fun K' hK => ?_)
        rw [if_pos (by rfl)]
        refine wp_append_rs _ _ 60 47 rfl _ 13 112 infoRE Tryz.underlying60 rfl (by decide) w.heap.size (.slice a' n c') n (evs L) rfl (HnL.out ▸ Q2.out.ha) (.slice (some ⟨w7.heap.size, 0, none⟩) 1 1) 1 _ rfl N2.out (by simp [Value.oneCell']) (by have := HLn.out; unfold maxLen; omega) (by have := HLn.out; omega) Q2.out.t.size ?_
        intro v9 w9 o9 gr9 p9
        have t9 := (Q2.out.haT gr9)
        have S9 := t9.keep S2 (fun hm => HZ.out _ (Option.mem_toList.1 hm) rfl)
        obtain ⟨a9, c9, e9⟩ := own_form o9
        subst e9
        have Q9 := hid (Q2.out.hadApp (e := e) (HnL.out ▸ o9) gr9 p9)
        clear o9 gr9 p9 t9
        refine hK.out _ _ S9 ?_
        clear hK
        try simp only [Go.Act.put, List.setIfInBounds_toArray, List.set_cons_zero, List.set_cons_succ]
        refine wpH_take (i := 9) (v := (.slice a8 (n + 1) c8)) (some 6) rfl rfl (by kernel_rfl) (by kernel_rfl) (by kernel_rfl) (fun _ _ _ h => h) (Or.inl ⟨by rfl, fun w' hS => (by go_simp)⟩) S9 ?_
        try simp only [Go.Act.put, List.setIfInBounds_toArray, List.set_cons_zero, List.set_cons_succ]
        refine wpH_take (i := 10) (v := (.slice a9 (n + 1) c9)) (some 7) rfl rfl (by kernel_rfl) (by kernel_rfl) (by kernel_rfl) (fun _ _ _ h => h) (Or.inl ⟨by rfl, fun w' hS => (by go_simp)⟩) S9 ?_
        try simp only [Go.Act.put, List.setIfInBounds_toArray, List.set_cons_zero, List.set_cons_succ]
        refine wpAnyH_done (by kernel_rfl) ?_ _
        go_wp2_with fail
        go_roundw
        case rel => exact ⟨j + 1, a8, c8, n + 1, a9, c9, by go_num, by omega, rfl, rfl, HS, HFIN.out _ _ _ _ Q9.out⟩
        case measure => simp [intOf]; omega
      · have T3 : Hid (Touch [] wr w3) := hid (by
          rcases H3.out with h | h
          · exact (TA.out.trans' T2.out).trans' h.2
          · exact absurd h.1 hF)
        have hF' : (addN L e == 0) = false := by simp [hF]
        have HS : Hid (n = (bl (l.take (j + 1))).length) := by show n = _; rw [HSn, accL, if_neg hF, HnL.out]
        have HFIN : Hid (∃ v, Bt w w3 b v (.slice a n c) (.slice a' n c') (bl (l.take (j + 1))) (bl (l.take (j + 1))) (bl (l.take (j + 1)))) := by
          refine ⟨v, ?_⟩
          rw [HSn, accL, if_neg hF]
          exact hB.out.touch0 T3.out
        clear hF H3 hB T2 TA IB HSn
        generalize addN L e = F at *
        go_wp2_with fail
        go_roundw
        case rel => exact ⟨j + 1, a, c, n, a', c', by go_num, by omega, rfl, rfl, HS, HFIN⟩
        case measure => simp [intOf]; omega
    · have hz : ¬ (j : Int) < NL := by omega
      have e1 : j = l.length := by omega
      have HF2 : Hid (n = (bl l).length ∧ ∃ v, Bt w wr b v (.slice a n c) (.slice a' n c') (bl l) (bl l) (bl l)) := by
        have h1 := HN.out
        obtain ⟨v, h2⟩ := HI.out
        rw [e1, List.take_length] at h1 h2
        exact ⟨h1, v, h2⟩
      clear e1 HN HI
      go_wp2_with fail
      obtain ⟨h1, v, h2⟩ := HF2.out
      go_ret3
      exact ⟨b, v, a, n, c, _, rfl, h1.symm, h2⟩
end Go.Proofs.YtcdikdiopklcgaaGreatDoor.Tr
