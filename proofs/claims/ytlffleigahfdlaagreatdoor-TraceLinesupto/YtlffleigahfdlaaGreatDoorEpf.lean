/- What a replacer of single bytes makes of a text; no conditions but those that each states. -/
import Derived.Test.YtlffleigahfdlaaGreatDoorEpe
namespace Go.Proofs.YtlffleigahfdlaaGreatDoor.Tr
open Go.RowKit Go.Shelf Go.Maps Go.ChangeMaps
set_option linter.unusedVariables false
set_option linter.unusedSimpArgs false
/-- What a byte's cell holds. -/
def Cb (w : World) (b : Nat) (u : Value) : Prop := if b = 10 ∨ b = 13 ∨ b = 37 then ∃ g c, u = .slice (some ⟨g, 0, none⟩) 3 c ∧ 3 ≤ c ∧ ∃ bs z, w.heap[g]? = some (.cells bs 5 z) ∧ ∀ (i : Nat) (x : UInt8), (mk1 (UInt8.ofNat b))[i]? = some x → bs[i]? = some (.int .u8 (x.toNat : Int)) else u = .slice none 0 0
theorem Br.byte {w : World} {B r b : Nat} (h : Br w B r 3) (hb : b < 256) : ∃ u, w.cell? ⟨r, b, none⟩ = some u ∧ Cb w b u := by
  obtain ⟨f, v, q1, q2, q3, q4⟩ := h
  refine ⟨f b, cell_at q1 (bc_get _ _ hb), ?_⟩
  have q := q4 b hb
  unfold Cb
  by_cases h1 : b = 10
  · subst h1
    rw [if_pos (Or.inl rfl)]
    obtain ⟨g, c, e1, e2, _, bs, z, e3, e4⟩ := q
    exact ⟨g, c, e1, e2, bs, z, e3, fun i x hx => e4 i _ (by match i, hx with
      | 0, hx => cases hx; rfl
      | 1, hx => cases hx; rfl
      | 2, hx => cases hx; rfl)⟩
  · by_cases h2 : b = 13
    · subst h2
      rw [if_pos (Or.inr (Or.inl rfl))]
      obtain ⟨g, c, e1, e2, _, bs, z, e3, e4⟩ := q
      exact ⟨g, c, e1, e2, bs, z, e3, fun i x hx => e4 i _ (by match i, hx with
        | 0, hx => cases hx; rfl
        | 1, hx => cases hx; rfl
        | 2, hx => cases hx; rfl)⟩
    · by_cases h3 : b = 37
      · subst h3
        rw [if_pos (Or.inr (Or.inr rfl))]
        obtain ⟨g, c, e1, e2, _, bs, z, e3, e4⟩ := q
        exact ⟨g, c, e1, e2, bs, z, e3, fun i x hx => e4 i _ (by match i, hx with
          | 0, hx => cases hx; rfl
          | 1, hx => cases hx; rfl
          | 2, hx => cases hx; rfl)⟩
      · rw [if_neg (by omega)]
        rw [show pp 3 b = none by unfold pp; rw [if_neg (by omega), if_neg (by omega), if_neg (by omega)]] at q
        exact q
theorem Br.list {w : World} {B r : Nat} (h : Br w B r 3) : ∃ g c, w.cell? ⟨r, 256, none⟩ = some (.slice (some ⟨g, 0, none⟩) 3 c) ∧ w.cell? ⟨g, 0, none⟩ = some (.string ⟨#[37]⟩) ∧ w.cell? ⟨g, 1, none⟩ = some (.string ⟨#[13]⟩) ∧ w.cell? ⟨g, 2, none⟩ = some (.string ⟨#[10]⟩) := by
  obtain ⟨f, v, q1, q2, q3, q4⟩ := h
  obtain ⟨g, c, rfl, _, _⟩ := own_some q3 (by omega)
  have hc : ∀ (j : Nat) u, (ll 3)[j]? = some u → w.cell? ⟨g, j, none⟩ = some u := fun j u hu => by
    obtain ⟨g', off, e, hh⟩ := (Rs.of_own q3).cell hu (by omega)
    rcases q3 with ⟨_, ⟨e1, _⟩ | ⟨g'', cap, cur, e1, hg, hc, hn, hm, hs, ht⟩⟩
    · cases e1
    · cases e1
      have hj := (List.getElem?_eq_some_iff.1 hu).1
      exact cell_at hc (by rw [← Array.getElem?_toList, ← hu, ← ht, List.getElem?_take, if_pos (by simp [ll] at hj; omega)])
  exact ⟨g, c, cell_at q1 (bc_last _ _), hc 0 _ rfl, hc 1 _ rfl, hc 2 _ rfl⟩
theorem spec_iff (b : UInt8) : spec b = true ↔ (b.toNat = 10 ∨ b.toNat = 13 ∨ b.toNat = 37) := by
  have e : ∀ c : UInt8, b = c ↔ b.toNat = c.toNat := fun c => ⟨fun h => by rw [h], fun h => UInt8.toNat_inj.1 h⟩
  unfold spec
  simp only [Bool.or_eq_true, beq_iff_eq]
  rw [e, e, e]
  simp only [UInt8.toNat_ofNat]
  omega
theorem cnt_step (s : ByteArray) {k : Nat} (h : k < s.size) : cnt (s.data.toList.take (k + 1)) = cnt (s.data.toList.take k) + if ((s[k]'h).toNat = 10 ∨ (s[k]'h).toNat = 13 ∨ (s[k]'h).toNat = 37) then 1 else 0 := by
  rw [List.take_add_one, List.getElem?_eq_getElem (by simpa using h)]
  have e : s.data.toList[k]'(by simpa using h) = s[k]'h := by simp; rfl
  rw [e]
  simp only [cnt, List.countP_append, Option.toList, List.countP_cons, List.countP_nil, Nat.zero_add]
  by_cases q : (s[k]'h).toNat = 10 ∨ (s[k]'h).toNat = 13 ∨ (s[k]'h).toNat = 37
  · rw [if_pos q, if_pos ((spec_iff _).2 q)]
  · rw [if_neg q, if_neg (fun x => q ((spec_iff _).1 x))]
theorem wpList_make_full {P : Program} (w : World) {ops : Array Oper} {rest : List Oper} {o : Oper} {a : Act} {Q : Exit → Act → World → Prop}
    (hg : o.guard = none) (l c : Operand) (t : TypeId) (hop : o.op = Op.makeSlice t l c) (e : TypeId) (i : TypeInfo) (z : Value) (h1 : P.underlying t = some (.slice e)) (h2 : P.info? e = some i) (h3 : i.zero = some z) (n : Nat)
    (hl : a.eval l = .int .i64 (n : Int)) (hc : a.eval c = .int .i64 (n : Int)) (b2 : (i.bytes : Int) * n ≤ 281474976710656) (b3 : (n : Int) ≤ 9223372036854775807)
    (hK : wpList P ops Q rest (a.put o.dst (.slice (some ⟨w.heap.size, 0, none⟩) n n)) (w.alloc (.cells (madeCells z.cells (n * i.size)) e))) : wpList P ops Q (o :: rest) a w := by
  refine wpList_plain hg fun K' hK' => ?_
  have hr := run_make (P := P) w t e i z h1 h2 h3 .i64 .i64 (n : Int) (n : Int) (by omega) (Int.le_refl _) b2 b3
  rw [Int.toNat_natCast] at hr
  unfold Oper.wp
  simp [execOp, hop, hl, hc, hr, Result.andThen]
  exact hK' _ _ hK
theorem info5 : (Tryz.prog.info? 5).map (fun i => (i.zero, i.size, i.bytes)) = some (some (.int .u8 0), 1, 1) := by kernel_rfl
/-- The row of bytes, so far. -/
def Bf (V w : World) (M : Nat) (L : List UInt8) : Prop := Touch [] V w ∧ ∃ cs, w.heap[V.heap.size]? = some (.cells cs 5 (0, 0)) ∧ cs.size = M ∧ ∀ (p : Nat) (x : UInt8), L[p]? = some x → cs[p]? = some (.int .u8 (x.toNat : Int))
theorem Bf.drew {V w : World} {M : Nat} {L : List UInt8} (h : Bf V w M L) : Bf V w.drew M L := ⟨h.1.drew, h.2⟩
theorem Bf.put {V w : World} {M : Nat} {L : List UInt8} (h : Bf V w M L) (x : UInt8) (hl : L.length < M) : (∃ y, w.cell? ⟨V.heap.size, L.length, none⟩ = some y) ∧ w.frozen? ⟨V.heap.size, L.length, none⟩ = false ∧ Bf V (w.setCell ⟨V.heap.size, L.length, none⟩ (.int .u8 (x.toNat : Int))) M (L ++ [x]) := by
  obtain ⟨t, cs, h1, h2, h3⟩ := h
  refine ⟨⟨_, cell_at h1 (Array.getElem?_eq_getElem (by omega))⟩, froz_at h1 _, t.setCell (Or.inr (Nat.le_refl _)) _, _, bset h1 _, by simp [h2], fun p y hp => ?_⟩
  rw [Array.getElem?_setIfInBounds]
  by_cases e : L.length = p
  · subst e
    rw [if_pos rfl, if_pos (by omega)]
    simp at hp
    rw [hp]
  · rw [if_neg e]
    have hlt := (List.getElem?_eq_some_iff.1 hp).1
    simp at hlt
    rw [List.getElem?_append_left (by omega)] at hp
    exact h3 p y hp
set_option maxRecDepth 100000 in
theorem Bf.copy {V w : World} {M g c : Nat} {bs : Array Value} {z : Nat × Nat} {L X : List UInt8} (h : Bf V w M L) (hg : w.heap[g]? = some (.cells bs 5 z)) (hX : X.length = 3) (hx : ∀ (i : Nat) (x : UInt8), X[i]? = some x → bs[i]? = some (.int .u8 (x.toNat : Int))) (hl : L.length + 3 ≤ M) :
    ∃ w', (∀ n c' : Nat, 3 ≤ n → (Builtin.copy_ #[96, 96] 3 #[.slice (some ⟨V.heap.size, L.length, none⟩) n c', .slice (some ⟨g, 0, none⟩) 3 c]).run Tryz.prog w = .ok (.int .i64 3) w') ∧ Bf V w' M (L ++ X) := by
  obtain ⟨t, cs, h1, h2, h3⟩ := h
  have hlen : (X.map (fun b => Value.int .u8 (b.toNat : Int))).length = 3 := by simp [hX]
  have hrun : ∀ n c' : Nat, 3 ≤ n → _ := fun n c' hn => run_copy_row Tryz.prog w 96 96 3 5 V.heap.size L.length n c' ⟨g, 0, none⟩ 3 c cs 5 (X.map (fun b => Value.int .u8 (b.toNat : Int))) Tryz.underlying96 (by kernel_rfl) h1 (by rw [hlen]; exact (Nat.min_eq_left hn).symm) (fun j v hj => by
    rw [List.getElem?_map] at hj
    obtain ⟨x, hx1, rfl⟩ := Option.map_eq_some_iff.1 hj
    rw [show (⟨g, 0, none⟩ : Addr).add j = ⟨g, j, none⟩ by unfold Addr.add; split <;> simp_all]
    exact cell_at hg (hx j x hx1)) (by rw [hlen, h2]; omega) (by simp [Value.oneCell'])
  rw [hlen] at hrun
  refine ⟨_, hrun, ?_⟩
  · refine ⟨t.trans (touch_setRow w _ _) (fun i hi => Or.inr (by simp at hi; omega)), _, setRow_heap w _ cs _ 5 (0, 0) h1, ?_, fun p y hp => ?_⟩
    · simp [h2, hX]
      omega
    · have hp1 := (List.getElem?_eq_some_iff.1 hp).1
      rw [List.length_append, hX] at hp1
      rw [List.getElem?_toArray]
      by_cases e : p < L.length
      · rw [List.getElem?_append_left e] at hp
        rw [List.append_assoc, List.getElem?_append_left (by simp; omega), List.getElem?_take, if_pos e, Array.getElem?_toList]
        exact h3 p y hp
      · rw [List.getElem?_append_right (by omega)] at hp
        rw [List.append_assoc, List.getElem?_append_right (by simp; omega), List.getElem?_append_left (by simp [hX]; omega)]
        have : p - (List.take L.length cs.toList).length = p - L.length := by
          simp
          omega
        rw [this, List.getElem?_map, hp]
        rfl
theorem Br.keep0 {w w' : World} {B r k : Nat} (h : Br w B r k) (T : Touch [] w w') : Br w' B r k := by
  obtain ⟨f, v, q1, q2, q3, q4⟩ := h
  exact ⟨f, v, T.keep q1 (by simp), q2, own_touch q3 T (by simp), fun j hj => (q4 j hj).keep T (by simp)⟩
theorem mask_step (s : ByteArray) {k : Nat} (h : k < s.size) : maskL (s.data.toList.take (k + 1)) = maskL (s.data.toList.take k) ++ mk1 (s[k]'h) := by
  rw [List.take_add_one, List.getElem?_eq_getElem (by simpa using h)]
  have e : s.data.toList[k]'(by simpa using h) = s[k]'h := by simp; rfl
  rw [e]
  simp [maskL, List.flatMap_append]
theorem mask_len_le (s : ByteArray) (k : Nat) : (maskL (s.data.toList.take k)).length ≤ (maskL s.data.toList).length := by
  have e : maskL s.data.toList = maskL (s.data.toList.take k) ++ maskL (s.data.toList.drop k) := by
    unfold maskL
    rw [← List.flatMap_append, List.take_append_drop]
  rw [e, List.length_append]
  omega
def cc (l : List UInt8) : Nat → Nat
  | 0 => 0
  | 1 => cc l 0 + l.count 37
  | 2 => cc l 1 + l.count 13
  | 3 => cc l 2 + l.count 10
  | _ => 0
theorem cc_le (s : ByteArray) (k : Nat) : cc s.data.toList k ≤ s.size * 3 := by
  have h : ∀ x : UInt8, s.data.toList.count x ≤ s.size := fun x => Nat.le_trans List.count_le_length (by simp)
  have := h 37; have := h 13; have := h 10
  match k with
  | 0 => simp [cc]
  | 1 => simp only [cc]; omega
  | 2 => simp only [cc]; omega
  | 3 => simp only [cc]; omega
  | _ + 4 => simp [cc]
set_option maxRecDepth 100000 in
set_option maxHeartbeats 4000000 in
theorem bsrep_ {w : World} {B r : Nat} (h : Br w B r 3) (s : ByteArray) (hs : s.size ≤ 1099511627776) :
    Calls Tryz.prog 244 #[PT r, .string s] w fun e w' => e = .returned (.string ⟨(maskL s.data.toList).toArray⟩) ∧ Touch [] w w' := by
  obtain ⟨NL, hNL⟩ : ∃ NL : Int, (s.size : Int) = NL := ⟨_, rfl⟩
  obtain ⟨g3, c3, cV, d0, d1, d2⟩ := h.list
  have H := hid h
  unfold PT
  by_cases hlen : 24 ≤ NL
  · have hlen' : (24 : Int) ≤ NL := hlen
    go_enter Tryz.func244, Tryz.ntmps244
    go_wp2_with fail
    go_loopw [5, 6, 32] (fun n a i wr => ∃ k : Nat, i = .int .i64 k ∧ k ≤ 3 ∧ n = .int .i64 (NL + 2 * cc s.data.toList k) ∧ a = .bool (decide (cc s.data.toList k ≠ 0)) ∧ Hid (Touch [] w wr)) (fun _ _ i _ => 3 - (intOf i).toNat)
    case atStart => exact ⟨0, rfl, by omega, by simp [cc], by simp [cc], Touch.refl _ _⟩
    case round =>
      rename World => wr
      obtain ⟨k, rfl, hk, rfl, rfl, T0⟩ := hrel
      have hB2 := H.out.keep0 T0.out
      replace cV := tcell T0.out cV
      replace d0 := tcell T0.out d0
      replace d1 := tcell T0.out d1
      replace d2 := tcell T0.out d2
      have hcc := cc_le s k
      rcases (by omega : k = 0 ∨ k = 1 ∨ k = 2 ∨ k = 3) with rfl | rfl | rfl | rfl
      · obtain ⟨u, cu, hu⟩ := hB2.byte (b := 37) (by omega)
        unfold Cb at hu
        rw [if_pos (by omega)] at hu
        obtain ⟨g, c, rfl, h3, -⟩ := hu
        have ex : (((⟨#[37]⟩ : ByteArray)[0]'(by decide)).toNat : Int) = 37 := rfl
        have HC : Hid _ := count_ s 37
        have hle : s.data.toList.count 37 ≤ s.size := Nat.le_trans List.count_le_length (by simp)
        have hst : cc s.data.toList 1 = cc s.data.toList 0 + s.data.toList.count 37 := by simp only [cc]
        obtain ⟨D, hD⟩ : ∃ D : Nat, s.data.toList.count 37 = D := ⟨_, rfl⟩
        rw [hD] at HC hle hst
        obtain ⟨C, hC⟩ : ∃ C : Nat, cc s.data.toList 0 = C := ⟨_, rfl⟩
        rw [hC] at hst hcc
        rw [hC]
        clear hB2
        go_wp2_with fail
        refine Calls.mono (HC.out _) ?_
        rintro e w4 ⟨rfl, rfl⟩
        by_cases hD0 : D = 0
        · have hne : ((D : Int) != 0) = false := by rw [hD0]; rfl
          go_wp2_with fail
          go_roundw
          case rel => exact ⟨1, by go_num, by omega, by rw [hst, hD0]; go_num, by rw [hst, hD0]; simp, T0⟩
          case measure => simp [intOf]
        · have hne : ((D : Int) != 0) = true := by simpa using hD0
          go_wp2_with fail
          go_quiet (fail)
          go_wp2_with fail
          go_roundw
          case rel => exact ⟨1, by go_num, by omega, by rw [hst]; go_num, by rw [hst]; simp [hD0], hid (T0.out.drewN _)⟩
          case measure => simp [intOf]
      · obtain ⟨u, cu, hu⟩ := hB2.byte (b := 13) (by omega)
        unfold Cb at hu
        rw [if_pos (by omega)] at hu
        obtain ⟨g, c, rfl, h3, -⟩ := hu
        have ex : (((⟨#[13]⟩ : ByteArray)[0]'(by decide)).toNat : Int) = 13 := rfl
        have HC : Hid _ := count_ s 13
        have hle : s.data.toList.count 13 ≤ s.size := Nat.le_trans List.count_le_length (by simp)
        have hst : cc s.data.toList 2 = cc s.data.toList 1 + s.data.toList.count 13 := by simp only [cc]
        obtain ⟨D, hD⟩ : ∃ D : Nat, s.data.toList.count 13 = D := ⟨_, rfl⟩
        rw [hD] at HC hle hst
        obtain ⟨C, hC⟩ : ∃ C : Nat, cc s.data.toList 1 = C := ⟨_, rfl⟩
        rw [hC] at hst hcc
        rw [hC]
        clear hB2
        go_wp2_with fail
        refine Calls.mono (HC.out _) ?_
        rintro e w4 ⟨rfl, rfl⟩
        by_cases hD0 : D = 0
        · have hne : ((D : Int) != 0) = false := by rw [hD0]; rfl
          go_wp2_with fail
          go_roundw
          case rel => exact ⟨2, by go_num, by omega, by rw [hst, hD0]; go_num, by rw [hst, hD0]; simp, T0⟩
          case measure => simp [intOf]
        · have hne : ((D : Int) != 0) = true := by simpa using hD0
          go_wp2_with fail
          go_quiet (fail)
          go_wp2_with fail
          go_roundw
          case rel => exact ⟨2, by go_num, by omega, by rw [hst]; go_num, by rw [hst]; simp [hD0], hid (T0.out.drewN _)⟩
          case measure => simp [intOf]
      · obtain ⟨u, cu, hu⟩ := hB2.byte (b := 10) (by omega)
        unfold Cb at hu
        rw [if_pos (by omega)] at hu
        obtain ⟨g, c, rfl, h3, -⟩ := hu
        have ex : (((⟨#[10]⟩ : ByteArray)[0]'(by decide)).toNat : Int) = 10 := rfl
        have HC : Hid _ := count_ s 10
        have hle : s.data.toList.count 10 ≤ s.size := Nat.le_trans List.count_le_length (by simp)
        have hst : cc s.data.toList 3 = cc s.data.toList 2 + s.data.toList.count 10 := by simp only [cc]
        obtain ⟨D, hD⟩ : ∃ D : Nat, s.data.toList.count 10 = D := ⟨_, rfl⟩
        rw [hD] at HC hle hst
        obtain ⟨C, hC⟩ : ∃ C : Nat, cc s.data.toList 2 = C := ⟨_, rfl⟩
        rw [hC] at hst hcc
        rw [hC]
        clear hB2
        go_wp2_with fail
        refine Calls.mono (HC.out _) ?_
        rintro e w4 ⟨rfl, rfl⟩
        by_cases hD0 : D = 0
        · have hne : ((D : Int) != 0) = false := by rw [hD0]; rfl
          go_wp2_with fail
          go_roundw
          case rel => exact ⟨3, by go_num, by omega, by rw [hst, hD0]; go_num, by rw [hst, hD0]; simp, T0⟩
          case measure => simp [intOf]
        · have hne : ((D : Int) != 0) = true := by simpa using hD0
          go_wp2_with fail
          go_quiet (fail)
          go_wp2_with fail
          go_roundw
          case rel => exact ⟨3, by go_num, by omega, by rw [hst]; go_num, by rw [hst]; simp [hD0], hid (T0.out.drewN _)⟩
          case measure => simp [intOf]
      · have TT : Hid (∀ w', Touch [] wr w' → Touch [] w w') := hid (fun w' h => T0.out.trans' h)
        clear H
        have H : Hid (Br wr B r 3) := hid hB2
        have ek : s.data.toList.take s.size = s.data.toList := List.take_of_length_le (by show s.data.toList.length ≤ s.data.size; simp)
        have hcn : cc s.data.toList 3 = cnt s.data.toList := by rw [cnt_three]; simp [cc, Nat.add_assoc]
        rw [hcn] at hcc
        rw [hcn]
        obtain ⟨C, hC⟩ : ∃ C : Nat, cnt s.data.toList = C := ⟨_, rfl⟩
        rw [hC]
        clear hB2 T0 hcn hcc
        by_cases h0 : C = 0
        · have hM : maskL s.data.toList = s.data.toList := maskL_none (by rw [hC, h0])
          go_wp2_with fail
          go_ret
          exact ⟨by first | rfl | (rw [hM]; rfl), TT.out _ (Touch.refl _ _)⟩
        · obtain ⟨M, hM⟩ : ∃ M : Nat, NL + 2 * (C : Int) = (M : Int) := ⟨s.size + 2 * C, by omega⟩
          have hCb : C ≤ s.size := by rw [← hC]; exact Nat.le_trans (cnt_le _) (by simp)
          have hML : (maskL s.data.toList).length = M := by
            rw [maskL_len, hC]
            have : s.data.toList.length = s.size := by simp
            omega
          obtain ⟨i5, hf5, hz5, hz51, hz52⟩ := info_parts info5
          rw [hM]
          go_wp2_with (at_make; refine wpList_make_full _ rfl _ _ 96 rfl 5 i5 (.int .u8 0) Tryz.underlying96 hf5 hz5 M rfl rfl (by rw [hz52]; omega) (by omega) ?_)
          clear cV d0 d1 d2
          have B0 : Hid (Bf wr (wr.alloc (.cells (madeCells #[.int .u8 0] M) 5)) M []) := hid ⟨(Touch.refl _ _).alloc _, _, heap_alloc_new wr _, by rw [size_madeCells], fun p x hx => by simp at hx⟩
          go_loopw [13, 14] (fun j i w2 => ∃ k : Nat, i = .int .i64 k ∧ k ≤ s.size ∧ j = .int .i64 ((maskL (s.data.toList.take k)).length : Nat) ∧ Hid (Bf wr w2 M (maskL (s.data.toList.take k)))) (fun _ i _ => s.size - (intOf i).toNat)
          case atStart => exact ⟨0, rfl, Nat.zero_le _, rfl, B0⟩
          case round =>
            rename World => w2
            obtain ⟨k, rfl, hk, rfl, HB⟩ := hrel
            clear B0
            by_cases hlt : k < s.size
            · have hz : (k : Int) < NL := by omega
              obtain ⟨X, hX⟩ : ∃ X : Nat, (s[k]'hlt).toNat = X := ⟨_, rfl⟩
              have hX' : X < 256 := by rw [← hX]; exact (s[k]'hlt).toNat_lt
              have hXi : 0 ≤ (X : Int) ∧ (X : Int) < 256 := by omega
              obtain ⟨u, cu, hu⟩ := (H.out.keep0 HB.out.1).byte hX'
              have mn := mask_step s hlt
              have ml := mask_len_le s (k + 1)
              rw [hML] at ml
              rw [mn, List.length_append] at ml
              obtain ⟨L, hL⟩ : ∃ L : List UInt8, maskL (s.data.toList.take k) = L := ⟨_, rfl⟩
              rw [hL] at mn ml HB
              rw [hL]
              obtain ⟨J, hJ⟩ : ∃ J : Nat, L.length = J := ⟨_, rfl⟩
              rw [hJ] at ml
              rw [hJ]
              unfold Cb at hu
              have e8 : UInt8.ofNat X = s[k]'hlt := by rw [← hX]; simp
              rw [e8] at hu
              by_cases hsp : X = 10 ∨ X = 13 ∨ X = 37
              · rw [if_pos hsp] at hu
                obtain ⟨g, c, rfl, h3, bs, z, hbs, hbx⟩ := hu
                have m3 : (mk1 (s[k]'hlt)).length = 3 := by
                  rw [mk1_len, if_pos ((spec_iff _).2 (by rw [hX]; exact hsp))]
                rw [m3] at ml
                have hJM : ¬ (M : Int) < J := by omega
                obtain ⟨w3, hc3, B3⟩ := HB.out.drew.copy hbs m3 hbx (by rw [hJ]; exact ml) (c := c)
                rw [hJ] at hc3
                rw [← mn] at B3
                have B3' := hid B3
                have hcp := hc3 (M - J) (M - J) (by omega)
                clear hX' hsp hbs hbx B3 hc3
                go_wp2_with fail
                have mlen : (maskL (s.data.toList.take (k + 1))).length = J + 3 := by rw [mn, List.length_append, hJ, m3]
                go_region
                go_wp2_with fail
                go_roundw
                case rel => exact ⟨k + 1, by go_num, by omega, by rw [mlen]; go_num, B3'⟩
                case measure => simp [intOf]; omega
              · rw [if_neg hsp] at hu
                subst hu
                have m1 : (mk1 (s[k]'hlt)) = [s[k]'hlt] := by
                  have := mk1_len (s[k]'hlt)
                  unfold mk1
                  have e : ∀ c : UInt8, s[k]'hlt = c → (s[k]'hlt).toNat = c.toNat := fun c h => by rw [h]
                  rw [if_neg (fun h => hsp (by have := e _ h; rw [hX] at this; exact Or.inl this)), if_neg (fun h => hsp (by have := e _ h; rw [hX] at this; exact Or.inr (Or.inl this))), if_neg (fun h => hsp (by have := e _ h; rw [hX] at this; exact Or.inr (Or.inr this)))]
                rw [m1] at ml mn
                simp only [List.length_cons, List.length_nil] at ml
                obtain ⟨⟨y, cy⟩, fy, B4⟩ := HB.out.put (s[k]'hlt) (by rw [hJ]; omega)
                rw [hJ] at cy fy B4
                rw [hX, ← mn] at B4
                have B4' := hid B4
                have hJi : 0 ≤ (J : Int) ∧ (J : Int) < (M : Int) := by omega
                have mlen : (maskL (s.data.toList.take (k + 1))).length = J + 1 := by rw [mn, List.length_append, hJ]; rfl
                clear hX' B4 hsp
                go_wp2_with fail
                go_roundw
                case rel => exact ⟨k + 1, by go_num, by omega, by rw [mlen]; go_num, B4'⟩
                case measure => simp [intOf]; omega
            · have hz : ¬ (k : Int) < NL := by omega
              have e1 : k = s.size := by omega
              subst e1
              rw [ek] at HB
              rw [ek, hML]
              obtain ⟨t6, cs6, h6, n6, x6⟩ := HB.out
              have hcv := run_convert_bytes_back (P := Tryz.prog) w2 96 9 5 ⟨wr.heap.size, 0, none⟩ M (maskL s.data.toList) Tryz.underlying96 Tryz.underlying5 Tryz.underlying9 (fun j hj => by
                rw [show (⟨wr.heap.size, 0, none⟩ : Addr).add j = ⟨wr.heap.size, j, none⟩ by unfold Addr.add; split <;> simp_all]
                exact cell_at h6 (x6 j _ (List.getElem?_eq_getElem hj)))
              rw [hML] at hcv
              have T6 := hid t6
              clear t6 h6 n6 x6
              go_wp2_with fail
              go_ret
              exact ⟨rfl, TT.out _ T6.out⟩
  · have hlen' : ¬ (24 : Int) ≤ NL := hlen
    go_enter Tryz.func244, Tryz.ntmps244
    go_wp2_with fail
    go_loopw [5, 6, 10] (fun n a i wr => ∃ k : Nat, i = .int .i64 k ∧ k ≤ s.size ∧ n = .int .i64 (NL + 2 * cnt (s.data.toList.take k)) ∧ a = .bool (decide (cnt (s.data.toList.take k) ≠ 0)) ∧ wr = w) (fun _ _ i _ => s.size - (intOf i).toNat)
    case atStart => exact ⟨0, rfl, Nat.zero_le _, by simp [cnt], by simp [cnt], rfl⟩
    case round =>
      obtain ⟨k, rfl, hk, rfl, rfl, rfl⟩ := hrel
      by_cases hlt : k < s.size
      · have hz : (k : Int) < NL := by omega
        have hd : k < s.data.size := hlt
        obtain ⟨X, hX⟩ : ∃ X : Nat, (s[k]'hlt).toNat = X := ⟨_, rfl⟩
        have hX' : X < 256 := by rw [← hX]; exact (s[k]'hlt).toNat_lt
        obtain ⟨u, cu, hu⟩ := H.out.byte hX'
        have cn := cnt_step s hlt
        have hXi : 0 ≤ (X : Int) ∧ (X : Int) < 256 := by omega
        have hCb : cnt (s.data.toList.take k) ≤ s.size := Nat.le_trans (cnt_le _) (Nat.le_trans (List.length_take_le _ _) (by omega))
        rw [hX] at cn
        obtain ⟨C, hC⟩ : ∃ C : Nat, cnt (s.data.toList.take k) = C := ⟨_, rfl⟩
        rw [hC] at cn hCb
        rw [hC]
        unfold Cb at hu
        by_cases hsp : X = 10 ∨ X = 13 ∨ X = 37
        · rw [if_pos hsp] at hu cn
          obtain ⟨g, c, rfl, h3, hbs⟩ := hu
          clear hX' hsp hbs
          go_wp2_with fail
          go_roundw
          case rel => exact ⟨k + 1, by go_num, by omega, by rw [cn]; go_num, by rw [cn]; simp, by simp⟩
          case measure => simp [intOf]; omega
        · rw [if_neg hsp] at hu cn
          subst hu
          clear hX' hsp
          go_wp2_with fail
          go_roundw
          case rel => exact ⟨k + 1, by go_num, by omega, by rw [cn]; go_num, by rw [cn]; simp, by simp⟩
          case measure => simp [intOf]; omega
      · have hz : ¬ (k : Int) < NL := by omega
        have e1 : k = s.size := by omega
        subst e1
        have ek : s.data.toList.take s.size = s.data.toList := List.take_of_length_le (by show s.data.toList.length ≤ s.data.size; simp)
        rw [ek]
        obtain ⟨C, hC⟩ : ∃ C : Nat, cnt s.data.toList = C := ⟨_, rfl⟩
        rw [hC]
        have TT : Hid (∀ w', Touch [] wr w' → Touch [] wr w') := hid (fun _ h => h)
        by_cases h0 : C = 0
        · have hM : maskL s.data.toList = s.data.toList := maskL_none (by rw [hC, h0])
          go_wp2_with fail
          go_ret
          exact ⟨by first | rfl | (rw [hM]; rfl), TT.out _ (Touch.refl _ _)⟩
        · obtain ⟨M, hM⟩ : ∃ M : Nat, NL + 2 * (C : Int) = (M : Int) := ⟨s.size + 2 * C, by omega⟩
          have hCb : C ≤ s.size := by rw [← hC]; exact Nat.le_trans (cnt_le _) (by simp)
          have hML : (maskL s.data.toList).length = M := by
            rw [maskL_len, hC]
            have : s.data.toList.length = s.size := by simp
            omega
          obtain ⟨i5, hf5, hz5, hz51, hz52⟩ := info_parts info5
          rw [hM]
          go_wp2_with (at_make; refine wpList_make_full _ rfl _ _ 96 rfl 5 i5 (.int .u8 0) Tryz.underlying96 hf5 hz5 M rfl rfl (by rw [hz52]; omega) (by omega) ?_)
          clear cV d0 d1 d2
          have B0 : Hid (Bf wr (wr.alloc (.cells (madeCells #[.int .u8 0] M) 5)) M []) := hid ⟨(Touch.refl _ _).alloc _, _, heap_alloc_new wr _, by rw [size_madeCells], fun p x hx => by simp at hx⟩
          go_loopw [13, 14] (fun j i w2 => ∃ k : Nat, i = .int .i64 k ∧ k ≤ s.size ∧ j = .int .i64 ((maskL (s.data.toList.take k)).length : Nat) ∧ Hid (Bf wr w2 M (maskL (s.data.toList.take k)))) (fun _ i _ => s.size - (intOf i).toNat)
          case atStart => exact ⟨0, rfl, Nat.zero_le _, rfl, B0⟩
          case round =>
            rename World => w2
            obtain ⟨k, rfl, hk, rfl, HB⟩ := hrel
            clear B0
            by_cases hlt : k < s.size
            · have hz : (k : Int) < NL := by omega
              obtain ⟨X, hX⟩ : ∃ X : Nat, (s[k]'hlt).toNat = X := ⟨_, rfl⟩
              have hX' : X < 256 := by rw [← hX]; exact (s[k]'hlt).toNat_lt
              have hXi : 0 ≤ (X : Int) ∧ (X : Int) < 256 := by omega
              obtain ⟨u, cu, hu⟩ := (H.out.keep0 HB.out.1).byte hX'
              have mn := mask_step s hlt
              have ml := mask_len_le s (k + 1)
              rw [hML] at ml
              rw [mn, List.length_append] at ml
              obtain ⟨L, hL⟩ : ∃ L : List UInt8, maskL (s.data.toList.take k) = L := ⟨_, rfl⟩
              rw [hL] at mn ml HB
              rw [hL]
              obtain ⟨J, hJ⟩ : ∃ J : Nat, L.length = J := ⟨_, rfl⟩
              rw [hJ] at ml
              rw [hJ]
              unfold Cb at hu
              have e8 : UInt8.ofNat X = s[k]'hlt := by rw [← hX]; simp
              rw [e8] at hu
              by_cases hsp : X = 10 ∨ X = 13 ∨ X = 37
              · rw [if_pos hsp] at hu
                obtain ⟨g, c, rfl, h3, bs, z, hbs, hbx⟩ := hu
                have m3 : (mk1 (s[k]'hlt)).length = 3 := by
                  rw [mk1_len, if_pos ((spec_iff _).2 (by rw [hX]; exact hsp))]
                rw [m3] at ml
                have hJM : ¬ (M : Int) < J := by omega
                obtain ⟨w3, hc3, B3⟩ := HB.out.drew.copy hbs m3 hbx (by rw [hJ]; exact ml) (c := c)
                rw [hJ] at hc3
                rw [← mn] at B3
                have B3' := hid B3
                have hcp := hc3 (M - J) (M - J) (by omega)
                clear hX' hsp hbs hbx B3 hc3
                go_wp2_with fail
                have mlen : (maskL (s.data.toList.take (k + 1))).length = J + 3 := by rw [mn, List.length_append, hJ, m3]
                go_region
                go_wp2_with fail
                go_roundw
                case rel => exact ⟨k + 1, by go_num, by omega, by rw [mlen]; go_num, B3'⟩
                case measure => simp [intOf]; omega
              · rw [if_neg hsp] at hu
                subst hu
                have m1 : (mk1 (s[k]'hlt)) = [s[k]'hlt] := by
                  have := mk1_len (s[k]'hlt)
                  unfold mk1
                  have e : ∀ c : UInt8, s[k]'hlt = c → (s[k]'hlt).toNat = c.toNat := fun c h => by rw [h]
                  rw [if_neg (fun h => hsp (by have := e _ h; rw [hX] at this; exact Or.inl this)), if_neg (fun h => hsp (by have := e _ h; rw [hX] at this; exact Or.inr (Or.inl this))), if_neg (fun h => hsp (by have := e _ h; rw [hX] at this; exact Or.inr (Or.inr this)))]
                rw [m1] at ml mn
                simp only [List.length_cons, List.length_nil] at ml
                obtain ⟨⟨y, cy⟩, fy, B4⟩ := HB.out.put (s[k]'hlt) (by rw [hJ]; omega)
                rw [hJ] at cy fy B4
                rw [hX, ← mn] at B4
                have B4' := hid B4
                have hJi : 0 ≤ (J : Int) ∧ (J : Int) < (M : Int) := by omega
                have mlen : (maskL (s.data.toList.take (k + 1))).length = J + 1 := by rw [mn, List.length_append, hJ]; rfl
                clear hX' B4 hsp
                go_wp2_with fail
                go_roundw
                case rel => exact ⟨k + 1, by go_num, by omega, by rw [mlen]; go_num, B4'⟩
                case measure => simp [intOf]; omega
            · have hz : ¬ (k : Int) < NL := by omega
              have e1 : k = s.size := by omega
              subst e1
              rw [ek] at HB
              rw [ek, hML]
              obtain ⟨t6, cs6, h6, n6, x6⟩ := HB.out
              have hcv := run_convert_bytes_back (P := Tryz.prog) w2 96 9 5 ⟨wr.heap.size, 0, none⟩ M (maskL s.data.toList) Tryz.underlying96 Tryz.underlying5 Tryz.underlying9 (fun j hj => by
                rw [show (⟨wr.heap.size, 0, none⟩ : Addr).add j = ⟨wr.heap.size, j, none⟩ by unfold Addr.add; split <;> simp_all]
                exact cell_at h6 (x6 j _ (List.getElem?_eq_getElem hj)))
              rw [hML] at hcv
              have T6 := hid t6
              clear t6 h6 n6 x6
              go_wp2_with fail
              go_ret
              exact ⟨rfl, TT.out _ T6.out⟩
end Go.Proofs.YtlffleigahfdlaaGreatDoor.Tr
