/- The contract of Waiting: who waits at a gate, in order, in a slice of its own. -/
import Derived.Test.YtmbjjkdocmcpdaaPas
namespace Go.Proofs.Ytmbjjkdocmcpdaa
open Go.RowKit Go.Maps Go.ChangeMaps
set_option linter.unusedVariables false
theorem own_some {w : World} {base e n k : Nat} {v : Value} {xs : List Value} (h : w.ownsRow base e k v n xs) (hn : 0 < n) : ∃ b c, v = .slice (some ⟨b, 0, none⟩) n c ∧ base ≤ b ∧ b < w.heap.size := by
  rcases h.2 with ⟨_, e0⟩ | ⟨g, cap, cur, rfl, hg, hc, _⟩
  · omega
  · exact ⟨g, cap, rfl, hg, block_lt hc⟩
theorem wl_take_succ {L : List Li} {k : Nat} (hk : k < L.length) : wl (L.take (k + 1)) = wl (L.take k) ++ L[k].xs := by
  rw [List.take_succ_eq_append_getElem hk, wl_app]
  simp [wl]
theorem wl_take_le {L : List Li} (k : Nat) : (wl (L.take k)).length ≤ (wl L).length := by
  have : wl L = wl (L.take k) ++ wl (L.drop k) := by rw [← wl_app, List.take_append_drop]
  rw [this, List.length_append]
  omega
theorem ints_app (a b : List Int) : ints (a ++ b) = ints a ++ ints b := by simp [ints]
theorem ints_len (a : List Int) : (ints a).length = a.length := by simp [ints]
def WtE (e : Ending) (w w' : World) (xs : List Int) : Prop := ∃ v, e = .returned v ∧ w'.ownsRow w.heap.size 3 1 v xs.length (ints xs) ∧ Touch [] w w'
def waitW (W : Nat → List Int) (n : Int) : List Int := if inG n = true then W n.toNat else []
section
variable {w : World} {g : Nat} {op : Nat → Bool} {W : Nat → List Int} {F : List Nat}
set_option maxHeartbeats 8000000 in
set_option maxRecDepth 100000 in
theorem waiting13 (h : Gs w g F op W) (n : Int) (hT : tot W ≤ 4398046511104) :
    Calls Try.prog 13 #[.pointer (some ⟨g, 0, none⟩), .int .i64 n] w fun e w' => WtE e w w' (waitW W n) := by
  cases hn : inG n with
  | false =>
    have HF := hid (find30_no w (some ⟨g, 0, none⟩) n hn)
    have e1 : waitW W n = [] := by simp [waitW, hn]
    rw [e1]
    clear h hn e1 hT
    go_enter Try.func13, Try.ntmps13
    go_wp2_with (go_at_call 30; refine HF.out.mono ?_; rintro e w2 ⟨rfl, rfl⟩)
    go_ret
    exact ⟨_, rfl, World.ownsRow_nil _ _ _ _, Touch.refl _ _⟩
  | true =>
    obtain ⟨i3, hi3, hz0, hz1, hz2⟩ := info_parts info3
    obtain ⟨hi, h2⟩ := inG_nat hn
    have HF := hid (find30_yes w g n hn)
    have e1 : waitW W n = W n.toNat := by simp [waitW, hn]
    rw [e1]
    obtain ⟨sl, m, L, rfl, h⟩ := h
    rw [← h.wl _ hi]
    have hbnd : (wl (L n.toNat)).length ≤ 4398046511104 := by rw [h.wl _ hi]; exact Nat.le_trans (tot_le W hi) hT
    have hLn := lines_le (h.gl.fu _ hi)
    have hln := h.gl.ln _ hi
    have hful := h.gl.fu _ hi
    obtain ⟨p, cap, hs⟩ := hln.form
    have c1 := cell_at h.gl.bl (gc_lines op sl m hi)
    rw [hs] at c1
    have HA : Hid (∀ W, Touch [] w W → ∀ k (hk : k < (L n.toNat).length), ∃ b q, p = some ⟨b, 0, none⟩ ∧ W.cell? ⟨b, k, none⟩ = some (.pointer (some ⟨q, 0, none⟩)) ∧ Calls Try.prog 31 #[.pointer (some ⟨q, 0, none⟩)] W fun e w' => ∃ b2 c2, e = .returned (.slice (some ⟨b2, 0, none⟩) (L n.toNat)[k].xs.length c2) ∧ b2 < w'.heap.size ∧ (∀ j u, (ints (L n.toNat)[k].xs)[j]? = some u → w'.cell? ((⟨b2, 0, none⟩ : Addr).add j) = some u) ∧ Touch [] W w') := fun V T k hk => by
      have hV := hln.keep0 T
      obtain ⟨b, hp, hcell⟩ := hV.cell hs hk
      refine ⟨b, (L n.toNat)[k].q, hp, hcell, (uall V _ _ _ (hV.all _ (List.getElem_mem hk))).mono ?_⟩
      rintro e w' ⟨v, he, ow, t'⟩
      obtain ⟨b2, c2, rfl, _, hb2⟩ := own_some ow (List.length_pos_iff.2 (hful _ (List.getElem_mem hk)))
      refine ⟨b2, c2, he, hb2, fun j u hu => ?_, t'⟩
      have : (⟨b2, 0, none⟩ : Addr).add j = ⟨b2, j, none⟩ := by unfold Addr.add; split <;> simp_all
      rw [this]
      exact own_cell ow hu
    have HP : Hid (∀ k (hk : k < (L n.toNat).length), 0 < (L n.toNat)[k].xs.length) := fun k hk => List.length_pos_iff.2 (hful _ (List.getElem_mem hk))
    clear h hn e1 hT hln hful hi h2 hs
    generalize L n.toNat = LL at *
    generalize n.toNat * 2 = o at *
    go_enter Try.func13, Try.ntmps13
    go_wp2_with (go_at_call 30; refine HF.out.mono ?_; rintro e w2 ⟨rfl, rfl⟩)
    clear c1
    go_loopw [6, 8, 19] (fun v v8 i wr => ∃ a k c, v = .slice a (wl (LL.take k)).length c ∧ i = .int .i64 (k : Int) ∧ k ≤ LL.length ∧ Hid (wr.ownsRow w2.heap.size 3 1 (.slice a (wl (LL.take k)).length c) (wl (LL.take k)).length (ints (wl (LL.take k))) ∧ Touch [] w2 wr)) (fun _ _ i _ => LL.length - (intOf i).toNat)
    case atStart => exact ⟨none, 0, 0, rfl, rfl, Nat.zero_le _, World.ownsRow_nil _ _ _ _, Touch.refl _ _⟩
    case round =>
      obtain ⟨a, k, c, rfl, rfl, hk, HR⟩ := hrel
      by_cases hlt : k < LL.length
      · have zk : (k : Int) < (LL.length : Int) := by omega
        obtain ⟨b, q, hp, hcell, hcall⟩ := HA.out wr HR.out.2 k hlt
        have hpos := HP.out k hlt
        have hsum : (wl (LL.take k)).length + LL[k].xs.length ≤ 4398046511104 := by
          have h1 := wl_take_le (L := LL) (k + 1)
          rw [wl_take_succ hlt, List.length_append] at h1
          omega
        have HX : Hid (wl (LL.take (k + 1)) = wl (LL.take k) ++ LL[k].xs) := wl_take_succ hlt
        have HC := hid hcall
        have hbr := HR.out.2.size
        have HL := hid hlt
        subst hp
        clear hcall HP HA
        generalize LL[k].xs = ys at *
        have HO : Hid (∀ W, Touch [] wr W → W.ownsRow w2.heap.size 3 1 (.slice a (wl (LL.take k)).length c) (wl (LL.take k)).length (ints (wl (LL.take k)))) := fun W T => own_touch HR.out.1 T (fun _ _ e => by cases e)
        have HT := hid HR.out.2
        have HRo := hid (fun j hj => (HR.out.1.lt j hj).1)
        clear HR
        generalize wl (LL.take k) = zs at *
        go_wp2_with (first
          | (go_at_call 31; refine HC.out.mono ?_; rintro e w4 ⟨b2, c2, rfl, hb2, hn2, t4⟩; have T4 := hid t4; have N4 := hid hn2; clear t4 hn2)
          | (at_builtin; refine wpList_append_lies _ rfl _ _ 27 rfl w2.heap.size 3 i3 (.int .i64 0) 1 8 Try.underlying27 hi3 hz0 hz1 hz2 rfl (by decide) (.slice a zs.length c) zs.length (ints zs) rfl (HO.out _ T4.out) ⟨b2, 0, none⟩ ys.length c2 (ints ys) rfl (by rw [ints_len]; omega) N4.out (by intro u hu; simp only [ints, List.mem_map] at hu; obtain ⟨y, _, rfl⟩ := hu; rfl) hpos (by unfold maxLen; omega) (by omega) (Nat.le_trans hbr T4.out.size) _ rfl ?_; intro b5 c5 w5 ow5 gr5 hb5 hlt5; have E5 : Hid (w5.ownsRow w2.heap.size 3 1 (.slice (some ⟨b5, 0, none⟩) (zs.length + ys.length) c5) (zs.length + ys.length) (ints zs ++ ints ys) ∧ Touch [] w2 w5) := ⟨ow5, (HT.out.trans' T4.out).trans ((Touch.refl _ _).grown gr5 (fun j hj => Or.inl (by rw [hj]; simp)) : Touch (Value.slice a zs.length c).ownBlock.toList w4 w5) (fun j hj => Or.inr (HRo.out j (by simpa using hj)))⟩; clear ow5 gr5 hb5 hlt5)
          | fail)
        go_roundw
        case rel => exact ⟨_, k + 1, c5, by rw [HX.out, List.length_append], by go_num, HL.out, by rw [HX.out, List.length_append, ints_app]; exact E5.out⟩
        case measure => have := HL.out; simp [intOf]; omega
      · have e : k = LL.length := by omega
        subst e
        go_wp2
        go_ret
        have := HR.out
        rw [List.take_length] at this
        exact ⟨_, rfl, by rw [List.take_length]; exact this⟩
end
end Go.Proofs.Ytmbjjkdocmcpdaa
