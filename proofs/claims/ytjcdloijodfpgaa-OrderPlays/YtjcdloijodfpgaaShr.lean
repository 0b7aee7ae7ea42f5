/- The contract of Shrink: the oldest go, and are told; there are at most seventy thousand keys. -/
import Derived.Test.YtjcdloijodfpgaaKys
namespace Go.Proofs.Ytjcdloijodfpgaa
open Go.RowKit Go.Sort Go.Maps Go.ChangeMaps Go.WideMaps
set_option linter.unusedVariables false
set_option linter.unusedSimpArgs false
theorem Oq.ty {w : World} {o : Nat} {F : List Nat} {most : Int} {xs : List K} (h : Oq w o F most xs) {k : Nat} (hk : k ∈ F) {cs : Array Value} {t : TypeId} {fr : Nat × Nat} (hc : w.heap[k]? = some (.cells cs t fr)) : t = 65 ∨ t = 77 := by
  obtain ⟨m, L, rfl, rfl, d⟩ := h
  simp only [fp, List.mem_cons, List.mem_append] at hk
  rcases hk with rfl | hk | hk
  · have := d.ln.oc
    unfold OC at this
    rw [this] at hc
    simp at hc
    exact Or.inl hc.2.1.symm
  · rcases d.mp with ⟨rfl, _⟩ | ⟨b, f, rfl, hm, hf⟩
    · simp at hk
    · simp at hk
      subst hk
      exact absurd rfl (hm.ne_block hc)
  · obtain ⟨e, he, rfl⟩ := List.mem_map.1 hk
    obtain ⟨x, y, hx⟩ := d.ln.sg.mem e he
    unfold Nd at hx
    rw [hx] at hc
    simp at hc
    exact Or.inr hc.2.1.symm
theorem Oq.away {w : World} {o : Nat} {F : List Nat} {most : Int} {xs : List K} (h : Oq w o F most xs) {k : Nat} {cs : Array Value} {t : TypeId} {fr : Nat × Nat} (hc : w.heap[k]? = some (.cells cs t fr)) (h1 : t ≠ 65) (h2 : t ≠ 77) : ¬ k ∈ F := fun hk => by
  rcases h.ty hk hc with e | e
  · exact h1 e
  · exact h2 e
theorem own_type {w : World} {base e n k : Nat} {v : Value} {xs : List Value} (h : w.ownsRow base e k v n xs) {b : Nat} (hb : v.ownBlock = some b) : ∃ cs, w.heap[b]? = some (.cells cs e (0, 0)) := by
  obtain ⟨h1, h2 | ⟨g, cap, cur, rfl, hg, hc, r⟩⟩ := h
  · rw [h2.1] at hb; cases hb
  · cases hb
    exact ⟨cur, hc⟩
theorem own_order {w w' : World} {o : Nat} {F : List Nat} {most : Int} {xs : List K} (h : Oq w o F most xs) (t : Touch F w w') {base n k : Nat} {v : Value} {ys : List Value} (hr : w.ownsRow base 36 k v n ys) : w'.ownsRow base 36 k v n ys :=
  own_touch hr t (fun b hb => by
    obtain ⟨cs, hc⟩ := own_type hr hb
    exact h.away hc (by decide) (by decide))
theorem Oq.setMost {w : World} {o : Nat} {F : List Nat} {most : Int} {xs : List K} (h : Oq w o F most xs) (n : Int) : Oq (w.setCell ⟨o, 0, none⟩ (.int .i64 n)) o F n xs := by
  obtain ⟨m, L, rfl, rfl, d⟩ := h
  refine ⟨m, L, rfl, rfl, ⟨⟨d.ln.oc.set0 n, d.ln.sg.keep (fun e he => ?_), d.ln.nb⟩, d.nd, d.ok, ?_⟩⟩
  · obtain ⟨x, y, hx⟩ := d.ln.sg.mem e he
    exact Below.heap_setCell _ _ _ _ (Ne.symm (d.ln.oc.ne hx))
  · rcases d.mp with h1 | ⟨b, f, rfl, hm, hf⟩
    · exact Or.inl h1
    · exact Or.inr ⟨b, f, rfl, hm.kept (Below.heap_setCell _ _ _ _ (hm.ne_block d.ln.oc)), hf⟩
theorem Oq.f0 {w : World} {o : Nat} {F : List Nat} {most : Int} {xs : List K} (h : Oq w o F most xs) : w.frozen? ⟨o, 0, none⟩ = false := by
  obtain ⟨m, L, rfl, rfl, d⟩ := h
  exact d.ln.oc.fr 0
theorem hc_size {w w' : World} {o : Nat} {F : List Nat} {most : Int} {xs : List K} (h : Ch w o F most xs w') : w.heap.size ≤ w'.heap.size := by
  obtain ⟨F', h1, h2, h3⟩ := h
  exact h2.size
/-- A row of keys of one's own is written behind the change. -/
theorem ch_row {w w1 w2 : World} {o : Nat} {F G : List Nat} {most : Int} {xs : List K} (h : Ch w o F most xs w1) (t : Touch G w1 w2) (hG : ∀ k ∈ G, w.heap.size ≤ k ∧ ∃ cs fr, w1.heap[k]? = some (.cells cs 36 fr)) : Ch w o F most xs w2 := by
  obtain ⟨F', h1, h2, h3⟩ := h
  refine ⟨F', h1.keep t (fun k hk hh => ?_), h2.trans t (fun i hi => Or.inr (hG i hi).1), h3⟩
  obtain ⟨_, cs, fr, hc⟩ := hG k hh
  exact h1.away hc (by decide) (by decide) hk
/-- How many are over. -/
def ovr (xs : List K) (n : Int) : Nat := xs.length - n.toNat
def ShS (w : World) (o : Nat) (F : List Nat) (n : Int) (xs : List K) (a : Option Addr) (k c : Nat) (wr : World) : Prop :=
  wr.ownsRow w.heap.size 36 2 (.slice a k c) k (cellsK (xs.take k)) ∧ Ch w o F n (xs.drop k) wr
theorem shrink15_bad (w : World) (o : Nat) (n : Int) (hn : ¬ (0 ≤ n ∧ n ≤ 65536)) : Calls Try.prog 15 #[PT o, .int .i64 n] w fun e w' => e = .returned (.tuple #[.slice none 0 0, .int .i64 1]) ∧ w' = w := by
  have HM := mayBe23 w n
  have hb : (decide (0 ≤ n) && decide (n ≤ 65536)) = false := by simp; omega
  rw [hb] at HM
  unfold PT
  go_enter Try.func15, Try.ntmps15
  go_wp2_with (go_at_call 23; refine HM.mono ?_; rintro e w2 ⟨rfl, rfl⟩)
  exact bodyPost_ret (v := .tuple #[.slice none 0 0, .int .i64 1]) (by simp [results, Try.results15, go_sem]) rfl ⟨rfl, rfl⟩
set_option maxHeartbeats 2000000 in
set_option maxRecDepth 100000 in
theorem shrink15_ok (w : World) (o : Nat) (F : List Nat) (most n : Int) (xs : List K) (h0 : 0 ≤ n) (h1 : n ≤ 65536) (hl : xs.length ≤ 70000) (h : Oq w o F most xs) :
    Calls Try.prog 15 #[PT o, .int .i64 n] w fun e w' => ∃ v, e = .returned (.tuple #[v, .int .i64 0]) ∧ w'.ownsRow w.heap.size 36 2 v (ovr xs n) (cellsK (xs.take (ovr xs n))) ∧ Ch w o F n (xs.drop (ovr xs n)) w' := by
  obtain ⟨i3, hi, hz0, hz1, hz2⟩ := info_parts info36
  have HM := mayBe23 w n
  rw [decide_eq_true h0, decide_eq_true h1] at HM
  simp only [Bool.and_self] at HM
  have f0 := h.f0
  have c0 := h.c0
  have HS : Hid (ShS w o F n xs none 0 0 (w.setCell ⟨o, 0, none⟩ (.int .i64 n))) := by
    refine ⟨World.ownsRow_nil _ _ _ _, F, h.setMost n, (Touch.refl _ _).setCell (Or.inl h.mem) _, Nf.refl _ _⟩
  have HOV : Hid (∀ k, k ≤ ovr xs n → (k < ovr xs n → n < ((xs.drop k).length : Int) ∧ k < xs.length) ∧ (¬ k < ovr xs n → ((xs.drop k).length : Int) ≤ n ∧ k = ovr xs n)) := fun k hk => by
    unfold ovr at *
    rw [List.length_drop]
    refine ⟨fun h => by omega, fun h => by omega⟩
  have hovl : ovr xs n ≤ 70000 := by unfold ovr; omega
  have HN := hid (And.intro h0 h1)
  have HF := hid h.lt
  have HL : Hid (∀ k wr, Ch w o F n (xs.drop k) wr → Calls Try.prog 20 #[PT o] wr fun x w' => x = .returned (.int .i64 (xs.drop k).length) ∧ w' = wr) := fun k wr c => by
    obtain ⟨F', c1, _⟩ := c
    exact lenO wr o F' n _ c1
  have HV : Hid (∀ a k c wr, k < xs.length → ShS w o F n xs a k c wr → Calls Try.prog 31 #[PT o] wr fun x w' => ∃ g, x = .returned (.agg #[.int .u16 g.1, .string g.2]) ∧ xs.take (k + 1) = xs.take k ++ [g] ∧ w'.ownsRow w.heap.size 36 2 (.slice a k c) k (cellsK (xs.take k)) ∧ Ch w o F n (xs.drop (k + 1)) w') := fun a k c wr hk s => by
    obtain ⟨s1, F', c1, a2, a3⟩ := s
    rw [List.drop_eq_getElem_cons hk] at c1
    refine (leaveO wr o F' n xs[k] (xs.drop (k + 1)) (by rw [List.length_drop]; omega) c1).mono ?_
    rintro x w' ⟨rfl, c2⟩
    refine ⟨xs[k], rfl, List.take_succ_eq_append_getElem hk, ?_, ch_comp a2 a3 c2⟩
    obtain ⟨F2, d1, d2, d3⟩ := c2
    exact own_order c1 d2 s1
  clear h h0 h1
  unfold PT at *
  go_enter Try.func15, Try.ntmps15
  go_wp2_with (go_at_call 23; refine HM.mono ?_; rintro e w2 ⟨rfl, rfl⟩)
  clear HM c0 f0
  obtain ⟨ov, hov⟩ : ∃ ov, ov = ovr xs n := ⟨_, rfl⟩
  rw [← hov] at HOV hovl
  have HE := hid hov
  clear hov
  go_loopw [6] (fun s wr => ∃ (a : Option Addr) (k c : Nat), k ≤ ov ∧ s = .slice a k c ∧ Hid (ShS w2 o F n xs a k c wr)) (fun s _ => ov - slen s)
  case atStart => exact ⟨none, 0, 0, Nat.zero_le _, rfl, HS⟩
  case round =>
    obtain ⟨a, k, c, hk, rfl, HR⟩ := hrel
    by_cases hlt : k < ov
    · obtain ⟨q1, q2⟩ := (HOV.out k hk).1 hlt
      have HLK := hid (HL.out k wr HR.out.2)
      have HVK := hid (HV.out a k c wr q2 HR.out)
      clear HS HL HV HOV
      generalize ((xs.drop k).length : Int) = nl at *
      have hsz := HR.out.2
      obtain ⟨F9, hsz1, hsz2, hsz3⟩ := hsz
      have hsz := hsz2.size
      clear hsz1 hsz2 hsz3
      go_wp2_with (first
        | (go_at_call 20; refine HLK.out.mono ?_; rintro e w3 ⟨rfl, rfl⟩)
        | (go_at_call 31; refine HVK.out.mono ?_; rintro e w4 ⟨g, rfl, hg, hr, hc⟩; have HG := hid hg; have HR4 := hid hr; have HC4 := hid hc; clear hg hr hc)
        | (at_builtin; refine wpList_append_lies _ rfl _ _ 51 rfl w2.heap.size 36 i3 (.agg #[.int .u16 0, .string ⟨#[]⟩]) 2 24 Try.underlying51 hi hz0 hz1 hz2 rfl (by decide) (.slice a k c) k (cellsK (xs.take k)) rfl (HR4.out.alloc _) ⟨w4.heap.size, 0, none⟩ 1 1 [.int .u16 g.1, .string g.2] rfl rfl (cell_two_new _ _ _ _) (by simp [Value.oneCell']) (by decide) (by unfold maxLen; omega) (by omega) (by simp; have := (hc_size HC4.out); omega) _ rfl ?_; intro g1 c1 w5 hown5 hgrow hat hlt5; have HO5 := hid hown5; have HG5 := hid hgrow; clear hown5 hgrow hat))
      go_roundw
      case rel =>
        refine ⟨some ⟨g1, 0, none⟩, k + 1, c1, by omega, rfl, ?_, ?_⟩
        · rw [HG.out, cellsK_app]
          exact HO5.out
        · refine ch_row HC4.out (G := (Value.slice a k c).ownBlock.toList) (((Touch.refl _ _).alloc _).grown HG5.out (fun j hj => Or.inl (by simp [hj]))) (fun j hj => ?_)
          have hj : (Value.slice a k c).ownBlock = some j := by simpa using hj
          obtain ⟨cs, hcs⟩ := own_type HR4.out hj
          exact ⟨(HR4.out.lt j hj).1, cs, _, hcs⟩
      case measure => simp [slen]; omega
    · obtain ⟨q1, q2⟩ := (HOV.out k hk).2 hlt
      have Q2 := hid q2
      clear q2
      have HLK := hid (HL.out k wr HR.out.2)
      clear HS HL HV HOV
      generalize ((xs.drop k).length : Int) = nl at *
      go_wp2_with (go_at_call 20; refine HLK.out.mono ?_; rintro e w3 ⟨rfl, rfl⟩)
      refine bodyPost_ret (v := .tuple #[.slice a k c, .int .i64 0]) (by simp [results, Try.results15, go_sem]) rfl ⟨_, rfl, ?_⟩
      rw [← HE.out, ← Q2.out]
      exact HR.out
end Go.Proofs.Ytjcdloijodfpgaa
