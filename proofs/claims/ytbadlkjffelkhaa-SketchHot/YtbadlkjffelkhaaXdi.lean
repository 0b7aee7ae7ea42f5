/- Keys in the order of their counts: plain mathematics; a key laid into the midst of a row; the contract of refs; no conditions but those that each states. -/
import Derived.Test.YtbadlkjffelkhaaXhh
import Derived.Test.YtbadlkjffelkhaaXsy
import Derived.Test.YtbadlkjffelkhaaHlg
namespace Go.Proofs.Ytbadlkjffelkhaa.Sk
open Go.RowKit Go.Maps Go.ChangeMaps
set_option maxRecDepth 100000
set_option linter.unusedVariables false
set_option linter.unusedSimpArgs false
def hvX (X : S) (k : K) : Ht := ⟨k, (cnK X k : Nat)⟩
def leX (X : S) (a b : K) : Prop := leH (hvX X a) (hvX X b)
def mayL (l : List K) : List K := l.filter (fun k => decide (k.2.size ≤ 64))
theorem hots_eq (X : S) (l : List K) : hots X l = (mayL l).map (hvX X) := by
  induction l with
  | nil => rfl
  | cons k l ih =>
    unfold mayL at *
    by_cases h : k.2.size ≤ 64
    · simp [hots, h, ih, hvX]
    · simp [hots, h, ih]
theorem leH_of_lt {x y : Ht} (h : cmpH x y < 0) : leH x y := by
  haveI : Inhabited Ht := ⟨x⟩
  intro h2
  have t := swoH.trans x y x (decide_eq_true h) (decide_eq_true h2)
  have i := swoH.irrefl x
  rw [t] at i
  cases i
theorem leH_trans {x y z : Ht} (h1 : leH x y) (h2 : leH y z) : leH x z := by
  haveI : Inhabited Ht := ⟨x⟩
  exact of_decide_eq_false (swoH.ntrans z y x (decide_eq_false h2) (decide_eq_false h1))
theorem insX_sorted {X : S} {O : List K} {x : K} {tt : Nat} (h : O.Pairwise (leX X)) (ht : tt ≤ O.length) (h1 : ∀ j (hj : j < O.length), j < tt → cmpH (hvX X O[j]) (hvX X x) < 0) (h2 : ∀ hj : tt < O.length, ¬ cmpH (hvX X O[tt]) (hvX X x) < 0) : (O.take tt ++ [x] ++ O.drop tt).Pairwise (leX X) := by
  have hs := h
  rw [← List.take_append_drop tt O, List.pairwise_append] at h
  obtain ⟨a1, a2, a3⟩ := h
  have b1 : ∀ a ∈ O.take tt, leX X a x := fun a ha => by
    obtain ⟨j, hj, rfl⟩ := List.getElem_of_mem ha
    rw [List.length_take] at hj
    rw [List.getElem_take]
    exact leH_of_lt (h1 j (by omega) (by omega))
  have b2 : ∀ a ∈ O.drop tt, leX X x a := fun a ha => by
    obtain ⟨j, hj, rfl⟩ := List.getElem_of_mem ha
    rw [List.length_drop] at hj
    rw [List.getElem_drop]
    have c0 : leX X x O[tt] := h2 (by omega)
    rcases Nat.eq_zero_or_pos j with rfl | hp
    · exact c0
    · exact leH_trans c0 (List.pairwise_iff_getElem.1 hs tt (tt + j) (by omega) (by omega) (by omega))
  rw [List.append_assoc, List.pairwise_append]
  refine ⟨a1, ?_, fun a ha b hb => ?_⟩
  · rw [List.singleton_append, List.pairwise_cons]
    exact ⟨b2, a2⟩
  · rw [List.singleton_append, List.mem_cons] at hb
    rcases hb with rfl | hb
    · exact b1 a ha
    · exact a3 a ha b hb
theorem insX_perm {O L : List K} (x : K) (tt : Nat) (h : O.Perm L) : (O.take tt ++ [x] ++ O.drop tt).Perm (L ++ [x]) := by
  rw [List.append_assoc]
  refine (List.perm_append_comm_assoc _ _ _).trans ?_
  rw [List.take_append_drop]
  exact List.perm_append_comm.trans (h.append_right _)
theorem sorted_map {X : S} {O : List K} (h : O.Pairwise (leX X)) : (O.map (hvX X)).Pairwise leH := List.pairwise_map.2 h
/-- What the program and the document put into order is the same. -/
theorem same_hot {X : S} {O U : List K} {S' : List Ht} (h1 : O.Perm (mayL U)) (h2 : O.Pairwise (leX X)) (h3 : S'.Perm (hots X U)) (h4 : S'.Pairwise leH) : S' = O.map (hvX X) := by
  refine sortedH_unique (h3.trans ?_) h4 (sorted_map h2)
  rw [hots_eq]
  exact (h1.map _).symm
theorem cellsK_one' (L : List K) : ∀ y ∈ Un.cellsK L, y.oneCell' = true := fun y hy => by
  unfold Un.cellsK at hy
  obtain ⟨x, _, hx⟩ := List.mem_flatMap.1 hy
  simp only [List.mem_cons, List.not_mem_nil, or_false] at hx
  rcases hx with rfl | rfl <;> rfl
/-- A slice that can be read, laid behind a row that a call owns: at the operation. -/
theorem wp_append_rs {w : World} {o : Oper} {a : Act} {K : Act → World → Prop} {Q : Exit → Act → World → Prop} (s x : Operand) (st et : TypeId) (ho : o.op = .call { callee := .builtin .append, args := #[s, x], argTypes := #[st, st] })
    (z : Value) (k bytes : Nat) (hinfo : (Try.prog.info? et).map (fun i => (i.zero, i.size, i.bytes)) = some (some z, k, bytes)) (ht : Try.prog.underlying st = some (.slice et)) (hzs : z.cells.size = k) (hk : 0 < k)
    (base : Nat) (v : Value) (n : Nat) (xs : List Value) (hs : a.eval s = v) (hown : w.ownsRow base et k v n xs)
    (u : Value) (m : Nat) (vs : List Value) (hx : a.eval x = u) (hu : Rs et k w u m vs) (h1 : ∀ y ∈ vs, y.oneCell' = true) (h63 : n + m ≤ maxLen) (hbytes : (n + m) * bytes ≤ 140737488355328) (hbase : base ≤ w.heap.size)
    (h : ∀ v' w', w'.ownsRow base et k v' (n + m) (xs ++ vs) → w.grownBy w' v.ownBlock → (v'.ownBlock = v.ownBlock ∨ v'.ownBlock = some w.heap.size) → K (a.put o.dst v') w') : o.wp Try.prog a w K Q := by
  obtain ⟨i3, hf, hz0, hz1, hz2⟩ := info_parts hinfo
  obtain ⟨hl, ad, c, rfl, hc, hn0, hr⟩ := hu
  cases ad with
  | none =>
    have e0 := hn0 rfl
    subst e0
    have em : m = 0 := by omega
    subst em
    have ev : vs = [] := List.length_eq_zero_iff.1 (by omega)
    subst ev
    have hrun := run_append_owned_none (P := Try.prog) (w := w) base st o.type et i3 k ht hf v n xs hown
    unfold Oper.wp
    simp [execOp, ho, resolve, invoke, builtin, hs, hx, hrun, Result.andThen]
    exact h v w (by simpa using hown) (World.grownBy.refl _ _) (Or.inl rfl)
  | some ad =>
    have hnews : ∀ j y, vs[j]? = some y → w.cell? (ad.add j) = some y := fun j y hy => by
      have hm : 0 < m := by
        rcases Nat.eq_zero_or_pos m with e | e
        · subst e
          have : vs = [] := List.length_eq_zero_iff.1 (by omega)
          subst this
          simp at hy
        · exact e
      obtain ⟨g, off, e, cs, zz, h5, h6⟩ := hr hm
      cases e
      rw [show (⟨g, off, none⟩ : Addr).add j = ⟨g, off + j, none⟩ by simp [Addr.add]]
      simp [World.cell?, h5, h6 j y hy]
    obtain ⟨v', w', hrun, q1, q2, q3, q4⟩ := run_append_own_at (P := Try.prog) w base st o.type et i3 z k bytes ht hf hz0 hz1 hz2 hzs hk v n xs hown ad m c vs hl hnews h1 h63 hbytes hbase
    unfold Oper.wp
    simp [execOp, ho, resolve, invoke, builtin, hs, hx, hrun, Result.andThen]
    exact h v' w' q1 q2 q4
/-- In the midst of append(append(append([]Key{}, L...), x), M...): the row, and the slice of one. -/
structure SiS (W C : World) (x : K) (r : Option (Value × List K)) (e : Option Value) : Prop where
  t : Touch [] W C
  row : ∀ v A, r = some (v, A) → C.ownsRow W.heap.size 50 2 v A.length (Un.cellsK A)
  one : ∀ u, e = some u → Rs 50 2 C u 1 [.int .u16 x.1, .string x.2] ∧ ∃ q, u = .slice (some ⟨q, 0, none⟩) 1 1 ∧ q < C.heap.size
  ap : ∀ v A u q, r = some (v, A) → e = some u → v.ownBlock = some q → u.ownBlock ≠ some q
section
variable {W C w5 : World} {x : K} {r : Option (Value × List K)} {e : Option Value}
theorem SiS.new0 (h : SiS W C x none e) : SiS W (C.alloc (.cells #[] 50)) x (some (.slice (some ⟨C.heap.size, 0, none⟩) 0 0, [])) e := by
  have ta : Touch [] C (C.alloc (.cells #[] 50)) := (Touch.refl _ _).alloc _
  refine ⟨h.t.trans' ta, fun v A hr => ?_, fun u he => ?_, fun v A u q hr he hq hu => ?_⟩
  · cases hr
    exact World.ownsRow_made (e := 50) (size := 2) C #[] 0 h.t.size (by unfold maxLen; omega) rfl
  · obtain ⟨h1, q, h2, h3⟩ := h.one u he
    exact ⟨h1.keep0 ta, q, h2, by simp; omega⟩
  · cases hr
    obtain ⟨h1, q', rfl, h3⟩ := h.one u he
    simp only [Value.ownBlock, Option.some.injEq] at hq hu
    omega
theorem SiS.newx (h : SiS W C x r none) : SiS W (C.alloc (.cells #[.int .u16 x.1, .string x.2] 50)) x r (some (.slice (some ⟨C.heap.size, 0, none⟩) 1 1)) := by
  have ta : Touch [] C (C.alloc (.cells #[.int .u16 x.1, .string x.2] 50)) := (Touch.refl _ _).alloc _
  refine ⟨h.t.trans' ta, fun v A hr => own_touch (h.row v A hr) ta (fun _ _ e => by cases e), fun u he => ?_, fun v A u q hr he hq hu => ?_⟩
  · cases he
    exact ⟨Rs.new C #[.int .u16 x.1, .string x.2] 50 2 rfl, C.heap.size, rfl, by simp⟩
  · cases he
    have := ((h.row v A hr).lt q hq).2
    simp only [Value.ownBlock, Option.some.injEq] at hu
    omega
theorem SiS.app {v v5 : Value} {A : List K} (h : SiS W C x (some (v, A)) e) {A5 : List K} (o5 : w5.ownsRow W.heap.size 50 2 v5 A5.length (Un.cellsK A5)) (g5 : C.grownBy w5 v.ownBlock) (p5 : v5.ownBlock = v.ownBlock ∨ v5.ownBlock = some C.heap.size) : SiS W w5 x (some (v5, A5)) e := by
  have tg : Touch v.ownBlock.toList C w5 := (Touch.refl _ _).grown g5 (fun q hq => Or.inl (by simp [hq]))
  refine ⟨touch_grown h.t g5 (h.row v A rfl) (Nat.le_refl _), fun v' A' hr => (by cases hr; exact o5), fun u he => ?_, fun v' A' u q hr he hq hu => ?_⟩
  · obtain ⟨h1, q, rfl, h3⟩ := h.one u he
    refine ⟨h1.keep tg (fun g off n c e2 hm => ?_), q, rfl, by have := g5.size; omega⟩
    simp only [Value.slice.injEq, Option.some.injEq, Addr.mk.injEq] at e2
    refine h.ap v A _ q rfl he ?_ rfl
    rw [e2.1.1]
    exact Option.mem_toList.1 hm
  · cases hr
    rcases p5 with p5 | p5
    · exact h.ap v A u q rfl he (p5 ▸ hq) hu
    · rw [p5] at hq
      cases hq
      obtain ⟨h1, q', rfl, h3⟩ := h.one u he
      simp only [Value.ownBlock, Option.some.injEq] at hu
      omega
end
theorem own_sl {w : World} {base e n c : Nat} {a : Option Addr} {L : List K} (h : w.ownsRow base e 2 (.slice a n c) n (Un.cellsK L)) (hn : n = L.length) : Un.Sl w (.slice a n c) L := by
  rcases own_addr h with ⟨rfl, h0, rfl⟩ | ⟨g, rfl, _⟩
  · exact Or.inl ⟨List.length_eq_zero_iff.1 (by omega), none, 0, by rw [h0]⟩
  · subst hn
    exact Or.inr ⟨g, 0, c, rfl, Un.owns_row h⟩
theorem Sl_keys {w : World} {v : Value} {xs : List K} (h : Un.Sl w v xs) : ∃ a c, v = .slice a xs.length c ∧ ∀ w1, Touch [] w w1 → ∀ i, (hi : i < xs.length) → ∃ b off, a = some ⟨b, off, none⟩ ∧ w1.cell? ⟨b, off + i * 2, none⟩ = some (.int .u16 xs[i].1) ∧ w1.cell? ⟨b, off + i * 2 + 1, none⟩ = some (.string xs[i].2) := by
  rcases h with ⟨rfl, a, c, rfl⟩ | ⟨b, off, c, rfl, R⟩
  · exact ⟨a, c, rfl, fun w2 t2 i hi => absurd hi (Nat.not_lt_zero _)⟩
  · refine ⟨_, c, rfl, fun w2 t2 i hi => ⟨b, off, rfl, ?_, ?_⟩⟩
    · have e : w2.heap[b]? = w.heap[b]? := t2.block b R.lt (by simp)
      rw [World.cell?_of_block (a := ⟨b, off + i * 2, none⟩) e]; exact R.at0 i hi
    · have e : w2.heap[b]? = w.heap[b]? := t2.block b R.lt (by simp)
      rw [World.cell?_of_block (a := ⟨b, off + i * 2 + 1, none⟩) e]; exact R.at1 i hi
set_option maxHeartbeats 4000000 in
theorem refs_ {w : World} {v : Value} {xs : List K} (h : Un.Sl w v xs) (hl : xs.length * 24 ≤ 140737488351232) : Calls Try.prog 17 #[v] w fun e w' => ∃ v1, e = .returned v1 ∧ Un.Sl w' v1 xs ∧ Touch [] w w' := by
  obtain ⟨a, c, rfl, HX1⟩ := Sl_keys h
  have HX := hid HX1
  have HR := hid ref_
  obtain ⟨n, hn⟩ : ∃ n, n = xs.length := ⟨_, rfl⟩
  have HN := hid hn
  rw [← hn] at hl ⊢
  clear hn HX1 h
  unfold kv at *
  go_enter Try.func17, Try.ntmps17
  go_wp2
  go_loopw [3, 4] (fun s3 s4 wr => ∃ (i : Nat) (b : Option Addr) (cp : Nat), i ≤ n ∧ s4 = .int .i64 i ∧ s3 = .slice b i cp ∧ Hid (Touch [] w wr ∧ wr.ownsRow w.heap.size 50 2 (.slice b i cp) i (Un.cellsK (xs.take i)))) (fun _ s4 _ => n - (intOf s4).toNat)
  case atStart => exact ⟨0, _, 0, Nat.zero_le _, rfl, rfl, hid ⟨(Touch.refl _ _).alloc _, World.ownsRow_made (e := 50) (size := 2) w #[] 0 (Nat.le_refl _) (by unfold maxLen; omega) rfl⟩⟩
  case round =>
    obtain ⟨i, b, cp, hi, rfl, rfl, HI⟩ := hrel
    by_cases hlt : i < n
    · have zi : (i : Int) < (n : Int) := by omega
      have hik : i < xs.length := by have := HN.out; omega
      obtain ⟨kb, off, rfl, g1, g2⟩ := HX.out wr HI.out.1 i hik
      have HTK : Hid (Un.cellsK (xs.take (i + 1)) = Un.cellsK (xs.take i) ++ [.int .u16 xs[i].1, .string xs[i].2]) := hid (by rw [Un.take_snocK xs i hik, Un.cellsK_app, Un.cellsK_one])
      obtain ⟨x, hx⟩ : ∃ x, x = xs[i] := ⟨_, rfl⟩
      rw [← hx] at HTK g1 g2
      have HA : Hid (∀ w2, Touch [] wr w2 → w2.ownsRow w.heap.size 50 2 (.slice b i cp) i (Un.cellsK (xs.take i)) ∧ w.heap.size ≤ w2.heap.size ∧ Touch [] w w2) := hid (fun w2 t2 => ⟨own_touch HI.out.2 t2 (fun _ _ e => by cases e), (HI.out.1.trans' t2).size, HI.out.1.trans' t2⟩)
      have HR1 := hid (HR.out x)
      clear hx HX hik HI HR
      generalize Un.cellsK (xs.take i) = vs at *
      go_wp2_with (first
        | (go_at_call 18; refine (HR1.out _).mono ?_; rintro e w2 ⟨rfl, t2⟩)
        | (at_builtin; refine wpList_append_rs rfl _ _ 55 50 rfl _ 2 24 Un.info31 Try.underlying55 rfl (by decide) w.heap.size (.slice b i cp) i vs rfl (HA.out _ (t2.alloc _)).1 (.slice (some ⟨w2.heap.size, 0, none⟩) 1 1) 1 _ rfl (Rs.new w2 #[.int .u16 x.1, .string x.2] 50 2 rfl) (by simp [Value.oneCell']) (by unfold maxLen; omega) (by omega) (HA.out _ (t2.alloc _)).2.1 ?_; intro v6 w6 o6 g6 _; obtain ⟨a6, c6, e6, _⟩ := (Rs.of_own o6).form; subst e6; have O6 := hid o6; have T6 := hid (touch_grown (HA.out _ (t2.alloc _)).2.2 g6 (HA.out _ (t2.alloc _)).1 (Nat.le_refl _)); clear o6 g6 t2))
      refine ⟨⟨i + 1, a6, c6, by omega, rfl, rfl, hid ⟨T6.out, ?_⟩⟩, by simp [intOf]; omega⟩
      rw [HTK.out]
      exact O6.out
    · have ei : i = n := by omega
      subst ei
      have zi : ¬ (i : Int) < (i : Int) := by omega
      have HZ : Hid (Un.Sl wr (.slice b i cp) xs ∧ Touch [] w wr) := hid (by
        obtain ⟨q1, q2⟩ := HI.out
        rw [List.take_of_length_le (by have := HN.out; omega)] at q2
        exact ⟨own_sl q2 HN.out, q1⟩)
      clear HI HX HR
      go_wp2
      go_ret
      exact ⟨_, rfl, HZ.out.1, HZ.out.2⟩
end Go.Proofs.Ytbadlkjffelkhaa.Sk
