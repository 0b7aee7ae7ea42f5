/- The contract of the document's Without; there are at most seventy thousand entries. -/
import Derived.Test.YtopepalpmkeffaaDfd
import Derived.Maps.AppendAt
namespace Go.Proofs.Ytopepalpmkeffaa
open Go.RowKit Go.Sort Go.Maps Go.ChangeMaps Go.WideMaps
set_option linter.unusedVariables false
set_option linter.unusedSimpArgs false
theorem info62 : (Try.prog.info? 62).map (fun i => (i.zero, i.size, i.bytes)) = some (some (.agg #[.int .u16 0, .string ⟨#[]⟩, .int .i64 0, .int .i64 0, .int .i64 0, .int .i64 0, .int .i64 0]), 7, 64) := by kernel_rfl
def zk7 : Value := .agg #[.int .u16 0, .string ⟨#[]⟩, .int .i64 0, .int .i64 0, .int .i64 0, .int .i64 0, .int .i64 0]
theorem cellsN_len (xs : List En) : (cellsN xs).length = xs.length * 7 := by
  induction xs with
  | nil => rfl
  | cons x l ih =>
    unfold cellsN at ih ⊢
    rw [List.flatMap_cons, List.length_append, ih]
    simp [nl]
    omega
theorem cellsN_one' (xs : List En) : ∀ u ∈ cellsN xs, u.oneCell' = true := by
  intro u hu
  unfold cellsN at hu
  obtain ⟨x, _, hx⟩ := List.mem_flatMap.1 hu
  unfold nl at hx
  simp only [List.mem_cons, List.not_mem_nil, or_false] at hx
  rcases hx with rfl | rfl | rfl | rfl | rfl | rfl | rfl <;> rfl
theorem At7.news {w : World} {t g off : Nat} {xs : List En} (h : At7 w t g off xs) : ∀ j u, (cellsN xs)[j]? = some u → w.cell? ((⟨g, off, none⟩ : Addr).add j) = some u := by
  intro j u hu
  have hj : j < xs.length * 7 := by
    rw [← cellsN_len]
    rcases Nat.lt_or_ge j (cellsN xs).length with e | e
    · exact e
    · rw [List.getElem?_eq_none e] at hu; cases hu
  have e : j = (j / 7) * 7 + j % 7 := by omega
  have hq : j / 7 < xs.length := by omega
  have hr : j % 7 < 7 := by omega
  rw [e, cellsN_at xs (j / 7) (j % 7) hq hr] at hu
  have := h.cell (j / 7) (j % 7) hq hr hu
  rw [← e] at this
  rw [show (⟨g, off, none⟩ : Addr).add j = ⟨g, off + j, none⟩ by simp [Addr.add]]
  exact this
theorem At7.take {w : World} {t g off : Nat} {xs : List En} (h : At7 w t g off xs) (k : Nat) : At7 w t g off (xs.take k) := by
  obtain ⟨cs, h1, h2⟩ := h
  refine ⟨cs, h1, fun i hi j hj => ?_⟩
  rw [List.length_take] at hi
  rw [h2 i (by omega) j hj]
  simp
theorem At7.drop {w : World} {t g off : Nat} {xs : List En} (h : At7 w t g off xs) (k : Nat) : At7 w t g (off + k * 7) (xs.drop k) := by
  obtain ⟨cs, h1, h2⟩ := h
  refine ⟨cs, h1, fun i hi j hj => ?_⟩
  rw [List.length_drop] at hi
  have := h2 (k + i) (by omega) j hj
  rw [show off + k * 7 + (i * 7 + j) = off + ((k + i) * 7 + j) by omega, this]
  simp
theorem own_new62 (w : World) : (w.alloc (.cells #[] 62)).ownsRow w.heap.size 62 7 (.slice (some ⟨w.heap.size, 0, none⟩) 0 0) 0 [] :=
  ⟨rfl, Or.inr ⟨w.heap.size, 0, #[], rfl, Nat.le_refl _, heap_alloc_new w _, Nat.le_refl _, by unfold maxLen; omega, rfl, rfl⟩⟩
set_option maxHeartbeats 2000000 in
set_option maxRecDepth 100000 in
theorem without33 (w : World) (v : Value) (xs : List En) (i : Nat) (hi : i < xs.length) (hl : xs.length ≤ 70000) (h : RN 62 w v xs) :
    Calls Try.prog 33 #[v, .int .i64 (i : Int)] w fun e w' => ∃ v', e = .returned v' ∧ w'.ownsRow w.heap.size 62 7 v' (xs.length - 1) (cellsN (xs.eraseIdx i)) ∧ Touch [] w w' := by
  obtain ⟨i3, hf, hz0, hz1, hz2⟩ := info_parts info62
  obtain ⟨a, c, rfl, hc, hg⟩ := h
  obtain ⟨g, off, rfl, hat⟩ := hg (by omega)
  have hgl : g < w.heap.size := by obtain ⟨cs, h1, _⟩ := hat; exact block_lt h1
  have HAt := hid (fun w' (t : Touch [] w w') => (hat.keep (t.block g hgl (by simp)) : At7 w' 62 g off xs))
  have HE : Hid (cellsN (xs.take i) ++ cellsN (xs.drop (i + 1)) = cellsN (xs.eraseIdx i)) := hid (by rw [← cellsN_app, List.eraseIdx_eq_take_drop_succ])
  have HLt : Hid ((xs.take i).length = i ∧ (xs.drop (i + 1)).length = xs.length - (i + 1)) := hid ⟨by rw [List.length_take]; omega, by rw [List.length_drop]⟩
  obtain ⟨n, hn⟩ : ∃ n, n = xs.length := ⟨_, rfl⟩
  rw [← hn] at hi hl hc HLt ⊢
  have HN := hid hn
  clear hn hat hg
  obtain ⟨i1, hi1⟩ : ∃ i1, i1 = i + 1 := ⟨_, rfl⟩
  have HI1 := hid hi1
  rw [← hi1] at HE HLt
  have wr1 : IntKind.i64.wrap ((i : Int) + 1) = (i1 : Int) := by simp [IntKind.wrap, IntKind.bits, IntKind.signed, IntKind.min, IntKind.max]; omega
  have z1 : (i : Int) ≤ (n : Int) := by omega
  have z2 : (i1 : Int) ≤ (n : Int) := by omega
  have z3 : (n : Int) ≤ (c : Int) := by omega
  have z4 : (i : Int) ≤ (c : Int) := by omega
  clear hi1
  by_cases hci : c = i1
  · have hni : n = i1 := by have := HI1.out; omega
    subst hci
    go_enter Try.func33, Try.ntmps33
    go_upto_region 2 with (at_builtin; refine wpList_append_own_at _ rfl _ _ 34 rfl w.heap.size 62 i3 zk7 7 64 Try.underlying34 hf hz0 hz1 hz2 rfl (by decide) (.slice (some ⟨w.heap.size, 0, none⟩) 0 0) 0 [] rfl (own_new62 w) ⟨g, off, none⟩ i _ (cellsN (xs.take i)) rfl (by rw [cellsN_len, HLt.out.1]) ((HAt.out _ ((Touch.refl _ _).alloc _)).take i).news (cellsN_one' _) (by unfold maxLen; omega) (by omega) (by simp) ?_; intro v1 w1 o1 g1 n1 a1; have O1 := hid o1; have G1 := hid g1; clear o1 g1 n1 a1)
    have O2 : Hid (w1.ownsRow w.heap.size 62 7 v1 i (cellsN (xs.take i))) := hid (by have := O1.out; rw [Nat.zero_add, List.nil_append] at this; exact this)
    have T1 : Hid (Touch [] w w1) := hid (((Touch.refl (Value.slice (some ⟨w.heap.size, 0, none⟩) 0 0).ownBlock.toList w).alloc _ |>.grown G1.out (fun k hk => Or.inl (by simp [hk]))) |> fun t => (Touch.refl [] w).trans t (fun q hq => Or.inr (by simp [Value.ownBlock] at hq; omega)))
    have hs1 := T1.out.size
    clear O1 G1
    go_wp2_with (at_builtin; refine wpList_append_own_at _ rfl _ _ 34 rfl w.heap.size 62 i3 zk7 7 64 Try.underlying34 hf hz0 hz1 hz2 rfl (by decide) v1 i (cellsN (xs.take i)) rfl O2.out ⟨g, off, none⟩ 0 _ [] rfl rfl (fun j u hu => by simp at hu) (fun u hu => by simp at hu) (by unfold maxLen; omega) (by omega) (by omega) ?_; intro v2 w2 o2 g2 n2 a2; have O3 := hid o2; have G2 := hid g2; clear o2 g2 n2 a2)
    have T2 : Touch [] w w2 := T1.out.trans ((Touch.refl v1.ownBlock.toList w1).grown G2.out (fun k hk => Or.inl (by simp [hk]))) (fun q hq => Or.inr (O2.out.lt q (by simpa using hq)).1)
    have HT2 := hid T2
    clear T2
    go_ret
    refine ⟨v2, rfl, ?_, HT2.out⟩
    have h1 := O3.out
    rw [show i + 0 = n - 1 by have := HI1.out; omega] at h1
    have h2 := HE.out
    rw [List.drop_eq_nil_of_le (by have := HN.out; omega)] at h2
    rw [← h2]
    exact h1
  · have hci2 : ¬ i1 = c := fun e => hci e.symm
    go_enter Try.func33, Try.ntmps33
    go_upto_region 2 with (at_builtin; refine wpList_append_own_at _ rfl _ _ 34 rfl w.heap.size 62 i3 zk7 7 64 Try.underlying34 hf hz0 hz1 hz2 rfl (by decide) (.slice (some ⟨w.heap.size, 0, none⟩) 0 0) 0 [] rfl (own_new62 w) ⟨g, off, none⟩ i _ (cellsN (xs.take i)) rfl (by rw [cellsN_len, HLt.out.1]) ((HAt.out _ ((Touch.refl _ _).alloc _)).take i).news (cellsN_one' _) (by unfold maxLen; omega) (by omega) (by simp) ?_; intro v1 w1 o1 g1 n1 a1; have O1 := hid o1; have G1 := hid g1; clear o1 g1 n1 a1)
    have O2 : Hid (w1.ownsRow w.heap.size 62 7 v1 i (cellsN (xs.take i))) := hid (by have := O1.out; rw [Nat.zero_add, List.nil_append] at this; exact this)
    have T1 : Hid (Touch [] w w1) := hid (((Touch.refl (Value.slice (some ⟨w.heap.size, 0, none⟩) 0 0).ownBlock.toList w).alloc _ |>.grown G1.out (fun k hk => Or.inl (by simp [hk]))) |> fun t => (Touch.refl [] w).trans t (fun q hq => Or.inr (by simp [Value.ownBlock] at hq; omega)))
    have hs1 := T1.out.size
    clear O1 G1
    go_wp2_with (at_builtin; refine wpList_append_own_at _ rfl _ _ 34 rfl w.heap.size 62 i3 zk7 7 64 Try.underlying34 hf hz0 hz1 hz2 rfl (by decide) v1 i (cellsN (xs.take i)) rfl O2.out ⟨g, off + i1 * 7, none⟩ (n - i1) _ (cellsN (xs.drop i1)) rfl (by rw [cellsN_len, HLt.out.2]) ((HAt.out _ T1.out).drop i1).news (cellsN_one' _) (by unfold maxLen; omega) (by omega) (by omega) ?_; intro v2 w2 o2 g2 n2 a2; have O3 := hid o2; have G2 := hid g2; clear o2 g2 n2 a2)
    have T2 : Touch [] w w2 := T1.out.trans ((Touch.refl v1.ownBlock.toList w1).grown G2.out (fun k hk => Or.inl (by simp [hk]))) (fun q hq => Or.inr (O2.out.lt q (by simpa using hq)).1)
    have HT2 := hid T2
    clear T2
    go_ret
    refine ⟨v2, rfl, ?_, HT2.out⟩
    have h1 := O3.out
    rw [show i + (n - i1) = n - 1 by have := HI1.out; omega, HE.out] at h1
    exact h1
end Go.Proofs.Ytopepalpmkeffaa
