/- The contract of the program's gathering of unlike keys and their counts; the list's bytes are within the form's reach. -/
import Derived.Test.YtbaljfkjgfkdiaaDoorGat
import Derived.Carry
namespace Go.Proofs.YtbaljfkjgfkdiaaDoor
open Go.RowKit Go.Sort Go.Maps Go.WideMaps
set_option linter.unusedVariables false

theorem info3 : (Tryd.prog.info? 3).map (fun i => (i.zero, i.size, i.bytes)) = some (some (.int .i64 0), 1, 8) := by kernel_rfl
theorem counts_bound (U l : List K) (i : Nat) (h : i < (counts U l).length) : 0 ≤ (counts U l)[i] ∧ (counts U l)[i] ≤ (l.length : Int) := by
  have h' : i < U.length := by rw [counts_len] at h; exact h
  have e : (counts U l)[i] = (cnt U[i] l : Int) := by simp [counts]
  have := cnt_le U[i] l
  omega
theorem lit_inj {c i : Int} {d : DataW Unit} (h : d = .lit (.int .i64 c)) (h' : d = .lit (.int .i64 i)) : c = i := by
  rw [h] at h'
  simpa using h'
theorem last_cell {w : World} {base e g c n : Nat} {C : List Int} (h : w.ownsRow base e 1 (.slice (some ⟨g, 0, none⟩) (n + 1) c) (n + 1) (cellsI C ++ [.int .i64 0])) (hC : C.length = n) :
    w.cell? ⟨g, n, none⟩ = some (.int .i64 0) ∧ w.frozen? ⟨g, n, none⟩ = false := by
  have hc : cellsI C ++ [Value.int .i64 0] = cellsI (C ++ [0]) := by unfold cellsI; simp
  rw [hc] at h
  have := owns1_at h n (by simp; omega)
  have e : (C ++ [0])[n]'(by simp; omega) = 0 := by
    subst hC
    simp
  rw [e] at this
  exact this
theorem cell_one_int (w : World) (x : Value) (t : TypeId) : ∀ j u, [x][j]? = some u → (w.alloc (.cells #[x] t)).cell? ((⟨w.heap.size, 0, none⟩ : Addr).add j) = some u := by
  intro j u hj
  match j, hj with
  | 0, hj => simp at hj; subst hj; simp [Addr.add]
theorem ne_map {w wr : World} {e size n c : Nat} {A : Option Addr} {xs : List Value} (h : wr.ownsRow (w.heap.size + 1) e size (.slice A n c) n xs) : (Value.slice A n c).ownBlock = none ∨ (Value.slice A n c).ownBlock ≠ some w.heap.size := by
  cases hb : (Value.slice A n c).ownBlock with
  | none => exact Or.inl rfl
  | some g => exact Or.inr (fun e => by
      have := (own_block_lt h g hb).2.1
      cases e
      omega)
theorem ne_rows {w wr : World} {U l : List K} {D : DataW Unit} {A4 A5 : Option Addr} {c4 c5 k : Nat} (h : St w wr U l D A4 A5 c4 c5 k) : (Value.slice A5 U.length c5).ownBlock = none ∨ (Value.slice A5 U.length c5).ownBlock ≠ (Value.slice A4 U.length c4).ownBlock := by
  cases hb : (Value.slice A5 U.length c5).ownBlock with
  | none => exact Or.inl rfl
  | some g => exact Or.inr (fun e => h.ap g g (own_block_lt h.o4 g e.symm).1 (own_block_lt h.o5 g hb).1 rfl)
theorem box_kept {wr w1 : World} {x y : Value} {t b : Nat} (h : (wr.alloc (.cells #[x, y] t)).grownBy w1 (some b)) (hb : b < wr.heap.size) : w1.cell? ⟨wr.heap.size, 0, none⟩ = some x ∧ w1.cell? ⟨wr.heap.size, 1, none⟩ = some y := by
  have hk := h.block wr.heap.size (by simp only [World.alloc, Array.size_push]; omega) (fun e => by cases e; omega)
  exact ⟨by rw [World.cell?_of_block (a := ⟨wr.heap.size, 0, none⟩) hk]; simp, by rw [World.cell?_of_block (a := ⟨wr.heap.size, 1, none⟩) hk]; simp⟩
def Oks (xs : List K) : Prop := ∀ x ∈ xs, Ok x
set_option maxHeartbeats 4000000 in
theorem gather41_row (xs : List K) (b off cap : Nat) (w : World) (hl : xs.length * 24 ≤ 140737488351232) (hN : Oks xs) (R : Row w b off xs) :
    Calls Tryd.prog 41 #[.slice (some ⟨b, off, none⟩) xs.length cap] w fun e w' => ∃ A4 A5 c4 c5 D, e = .returned (.tuple #[.slice A4 (unl [] xs).length c4, .slice A5 (unl [] xs).length c5]) ∧ St w w' (unl [] xs) xs D A4 A5 c4 c5 xs.length := by
  obtain ⟨i4, hi4, hz40, hz41, hz42⟩ := info_parts info24
  obtain ⟨i5, hi5, hz50, hz51, hz52⟩ := info_parts info3
  have HR : Hid _ := R
  have HNm : Hid _ := hN
  clear R hN
  have hmm := @run_makeMap Tryd.prog
  go_enter Tryd.func41, Tryd.ntmps41
  go_wp2
  go_loopw [4, 5, 14] (fun t4 t5 i wr => ∃ (k c4 c5 : Nat) (U : List K) (D : DataW Unit) (A4 A5 : Option Addr), i = .int .i64 k ∧ k ≤ xs.length ∧ Hid (U = unl [] (xs.take k)) ∧ U.length ≤ k ∧ t4 = .slice A4 U.length c4 ∧ t5 = .slice A5 U.length c5 ∧ Hid (St w wr U (xs.take k) D A4 A5 c4 c5 k)) (fun _ _ i _ => xs.length - (intOf i).toNat)
  case atStart =>
    refine ⟨0, 0, 0, [], .map [], none, none, rfl, Nat.zero_le _, rfl, Nat.le_refl _, rfl, rfl, ?_⟩
    exact ⟨⟨rfl, Or.inl ⟨rfl, rfl⟩⟩, ⟨rfl, Or.inl ⟨rfl, rfl⟩⟩, World.ownsMap_made _ _ _ _, mapOk_nil, (Below.refl _ _).alloc (Nat.le_refl _) _, by simp, fun g g' h => by cases h⟩
  case round =>
    obtain ⟨k, c4, c5, U, D, A4, A5, rfl, hk, HU, hUl, rfl, rfl, HS⟩ := hrel
    by_cases hlt : k < xs.length
    · have hz : (k : Int) < (xs.length : Int) := by omega
      have hz' : (0 : Int) ≤ (k : Int) := by omega
      have f0 : wr.cell? ⟨b, off + k * 2, none⟩ = some (.int .u16 xs[k].1) := by rw [HS.out.bl.cell (by exact HR.out.lt)]; exact HR.out.at0 k hlt
      have f1 : wr.cell? ⟨b, off + k * 2 + 1, none⟩ = some (.string xs[k].2) := by rw [HS.out.bl.cell (by exact HR.out.lt)]; exact HR.out.at1 k hlt
      have HX : Hid (unl [] (xs.take (k + 1)) = unl U [(xs[k].1, xs[k].2)] ∧ xs.take (k + 1) = xs.take k ++ [(xs[k].1, xs[k].2)]) := ⟨by rw [unl_take xs k hlt, HU.out], take_snocK xs k hlt⟩
      have HOk : Hid (Ok (xs[k].1, xs[k].2)) := HNm.out _ (List.getElem_mem hlt)
      have HUO : Hid (∀ u ∈ U, Ok u) := fun u hu => by
        rw [HU.out, unl_mem] at hu
        rcases hu with h | h
        · cases h
        · exact HNm.out _ (List.mem_of_mem_take h)
      have HND : Hid U.Nodup := by show List.Nodup _; rw [HU.out]; exact unl_nodup [] _ List.nodup_nil
      have HM : Hid ((xs[k].1, xs[k].2) ∈ xs.take k → (xs[k].1, xs[k].2) ∈ U) := fun h => by rw [HU.out, unl_mem]; exact Or.inr h
      clear HU
      generalize xs[k].1 = x at *
      generalize xs[k].2 = y at *
      by_cases hin : (x, y) ∈ U
      · obtain ⟨i, hi, he⟩ := List.getElem_of_mem hin
        have hhas : Maps.has D (klit (x, y)) = true := (HS.out.mo.has _ HOk.out).2 hin
        have HE : Hid (unl [] (xs.take (k + 1)) = U) := by show _ = _; rw [HX.out.1, unl_one_in U _ hin]
        have HHE : Hid _ := he
        have HAT : Hid (D.atKey (klit (x, y)) (.lit (.int .i64 0)) = .lit (.int .i64 (i : Int))) := by have := HS.out.mo.at_ i hi; rw [he] at this; exact this
        obtain ⟨g5, cap5, hv5, hb5, hlt5⟩ := HS.out.o5.form (by omega)
        simp only [Value.slice.injEq] at hv5
        obtain ⟨rfl, _, rfl⟩ := hv5
        have hci : i < (counts U (xs.take k)).length := by rw [counts_len]; exact hi
        have hc := owns1_at (HS.out.o5.alloc (.cells #[.int .u16 x, .string y] 24)) i hci
        have HST : Hid _ := st_known HS.out HND.out i hi (.cells #[.int .u16 x, .string y] 24)
        obtain ⟨hcb0, hcb⟩ := counts_bound U (xs.take k) i hci
        rw [List.length_take] at hcb
        have hcb : (counts U (xs.take k))[i] ≤ (xs.length : Int) := by omega
        obtain ⟨hc0, hc1⟩ := hc
        clear he hin
        generalize (counts U (xs.take k))[i] = q at *
        have iz : (i : Int) < (U.length : Int) := by omega
        go_wp2_with (at_lookup; refine wpList_lookup_own_ok_int _ rfl _ _ 83 rfl 24 3 .i64 keyed24 Tryd.underlying83 Tryd.underlying3 (by kernel_rfl) w.heap.size k D rfl (HS.out.om.alloc _) _ _ rfl (key24 (x, y) HOk.out) ?_; intro c hat hwc; obtain rfl := lit_inj hat HAT.out; clear hat hwc)
        go_roundw
        case rel =>
          refine ⟨k + 1, c4, _, U, D, A4, _, by go_num, by omega, HE.out.symm, by omega, rfl, rfl, ?_⟩
          show St _ _ _ _ _ _ _ _ _ _
          rw [HX.out.2, ← HHE.out]
          exact HST.out
        case measure => simp [intOf]; omega
      · have hhas : Maps.has D (klit (x, y)) = false := by
          cases h : Maps.has D (klit (x, y)) with
          | false => rfl
          | true => exact absurd ((HS.out.mo.has _ HOk.out).1 h) hin
        have HNI : Hid (¬ (x, y) ∈ U ∧ ¬ (x, y) ∈ xs.take k) := ⟨hin, fun h => hin (HM.out h)⟩
        have HE : Hid (unl [] (xs.take (k + 1)) = U ++ [(x, y)]) := by show _ = _; rw [HX.out.1, unl_one_new U _ hin]
        have hsz := HS.out.sz
        have HN4 : Hid _ := ne_map HS.out.o4
        have HN5 : Hid _ := ne_map HS.out.o5
        have HNR : Hid _ := ne_rows HS.out
        have hwf : (Lit.int .i64 (U.length : Int)).wf = true := by
          simp [Lit.wf, IntKind.min, IntKind.max, IntKind.bits, IntKind.signed]
          omega
        have HD : Hid (IsMap D) := HS.out.om.isMap
        have uz : (U.length : Int) < (U.length : Int) + 1 := by omega
        clear hin
        go_wp2_with (first
          | (at_lookup; refine wpList_lookup_own_ok_int _ rfl _ _ 83 rfl 24 3 .i64 keyed24 Tryd.underlying83 Tryd.underlying3 (by kernel_rfl) w.heap.size k D rfl (HS.out.om.alloc _) _ _ rfl (key24 (x, y) HOk.out) ?_; intro c hat hwc; clear hat hwc)
          | (at_mapUpdate; refine wpList_mapUpdate_own _ rfl _ _ _ 83 rfl 24 3 keyed24 Tryd.underlying83 (plainElem Tryd.prog 3) w.heap.size k D rfl (HS.out.om.alloc _) (by unfold maxLen; omega) _ _ (klit (x, y)) rfl rfl (key24 (x, y) HOk.out) (.lit (.int .i64 U.length)) [] (plainElem_int Tryd.underlying3 hwf) ?_; intro w1 m1 r1; obtain ⟨e0, e1⟩ := box_kept r1 (by omega); have z1 := r1.size; simp only [World.alloc, Array.size_push] at z1)
          | (at_builtin; refine wpList_append_lies _ rfl _ _ 52 rfl (w.heap.size + 1) 24 i4 (.agg #[.int .u16 0, .string ⟨#[]⟩]) 2 24 Tryd.underlying52 hi4 hz40 hz41 hz42 rfl (by decide) _ _ _ rfl (((HS.out.o4.alloc _).kept r1 HN4.out).alloc _) ⟨w1.heap.size, 0, none⟩ 1 1 [.int .u16 x, .string y] rfl rfl (cell_two_new _ _ _ _) (by simp [Value.oneCell']) (by decide) (by unfold maxLen; omega) (by omega) (by simp only [World.alloc, Array.size_push]; omega) _ rfl ?_; intro g4 c4' w2 n4 r2 a4 l4; have z2 := r2.size; simp only [World.alloc, Array.size_push] at z2)
          | (at_builtin; refine wpList_append_lies _ rfl _ _ 59 rfl (w.heap.size + 1) 3 i5 (.int .i64 0) 1 8 Tryd.underlying59 hi5 hz50 hz51 hz52 rfl (by decide) _ _ _ rfl (((((HS.out.o5.alloc _).kept r1 HN5.out).alloc _).kept r2 HNR.out).alloc _) ⟨w2.heap.size, 0, none⟩ 1 1 [.int .i64 0] rfl rfl (cell_one_int _ _ _) (by simp [Value.oneCell']) (by decide) (by unfold maxLen; omega) (by omega) (by simp only [World.alloc, Array.size_push]; omega) _ rfl ?_; intro g5 c5' w3 n5 r3 a5 l5; obtain ⟨q0, q1⟩ := last_cell n5 (counts_len U _); have HST : Hid _ := st_new HS.out HD.out HUO.out (x, y) HOk.out HNI.out.1 HNI.out.2 _ _ _ m1 r1 n4 r2 a4 n5 r3 a5; clear a4 a5 n4 r2 n5 r3 m1 r1))
        go_roundw
        case rel =>
          have hlen : (U ++ [(x, y)]).length = U.length + 1 := by simp
          refine ⟨k + 1, c4', c5', U ++ [(x, y)], D.put (klit (x, y)) (.lit (.int .i64 U.length)), some ⟨g4, 0, none⟩, some ⟨g5, 0, none⟩, by go_num, by omega, HE.out.symm, by omega, by rw [hlen], by rw [hlen], ?_⟩
          show St _ _ _ _ _ _ _ _ _ _
          rw [HX.out.2]
          exact HST.out
        case measure => simp [intOf]; omega
    · have hz : ¬ (k : Int) < (xs.length : Int) := by omega
      obtain rfl : k = xs.length := by omega
      have hU := HU.out
      rw [List.take_length] at hU HS
      subst hU
      go_wp2
      go_ret2
      exact ⟨_, _, _, _, rfl, _, HS.out⟩
theorem gather41_nil (a : Option Addr) (cap : Nat) (w : World) :
    Calls Tryd.prog 41 #[.slice a 0 cap] w fun e w' => e = .returned (.tuple #[.slice none 0 0, .slice none 0 0]) ∧ Below w.heap.size w w' := by
  have hmm := @run_makeMap Tryd.prog
  go_enter Tryd.func41, Tryd.ntmps41
  go_wp2
  go_loop [4, 5, 14] (fun t t' i => t = .slice none 0 0 ∧ t' = .slice none 0 0 ∧ i = .int .i64 0) (fun _ _ _ => 0)
  case atStart => exact ⟨rfl, rfl, rfl⟩
  case round =>
    obtain ⟨rfl, rfl, rfl⟩ := hrel
    go_wp2
    go_ret2
    exact ⟨rfl, (Below.refl _ _).alloc (Nat.le_refl _) _⟩

def SlI (w : World) (v : Value) (C : List Int) : Prop := (C = [] ∧ ∃ a cap, v = .slice a 0 cap) ∨ ∃ b cap, v = .slice (some ⟨b, 0, none⟩) C.length cap ∧ b < w.heap.size ∧ ∀ i (h : i < C.length), w.cell? ⟨b, i, none⟩ = some (.int .i64 C[i])
theorem st_sl {w wr : World} {U l : List K} {D : DataW Unit} {A4 A5 : Option Addr} {c4 c5 k : Nat} (h : St w wr U l D A4 A5 c4 c5 k) : Sl wr (.slice A4 U.length c4) U ∧ SlI wr (.slice A5 U.length c5) (counts U l) := by
  constructor
  · cases hb : (Value.slice A4 U.length c4).ownBlock with
    | none =>
      obtain ⟨_, h2 | ⟨g, cap, cur, hv, _⟩⟩ := h.o4
      · exact Or.inl ⟨List.length_eq_zero_iff.1 h2.2, A4, c4, by rw [h2.2]⟩
      · rw [hv] at hb; cases hb
    | some g =>
      obtain ⟨rfl, _, _⟩ := own_block_lt h.o4 g hb
      exact Or.inr ⟨g, 0, c4, rfl, owns_row h.o4⟩
  · cases hb : (Value.slice A5 U.length c5).ownBlock with
    | none =>
      obtain ⟨_, h2 | ⟨g, cap, cur, hv, _⟩⟩ := h.o5
      · exact Or.inl ⟨List.length_eq_zero_iff.1 (by rw [counts_len]; exact h2.2), A5, c5, by rw [h2.2]⟩
      · rw [hv] at hb; cases hb
    | some g =>
      obtain ⟨rfl, _, hlt⟩ := own_block_lt h.o5 g hb
      exact Or.inr ⟨g, c5, by rw [counts_len], hlt, fun i hi => (owns1_at h.o5 i hi).1⟩
theorem gather41 (xs : List K) (v : Value) (w : World) (hl : xs.length * 24 ≤ 140737488351232) (hN : Oks xs) (R : Sl w v xs) :
    Calls Tryd.prog 41 #[v] w fun e w' => ∃ v4 v5, e = .returned (.tuple #[v4, v5]) ∧ Sl w' v4 (unl [] xs) ∧ SlI w' v5 (counts (unl [] xs) xs) ∧ Below w.heap.size w w' := by
  rcases R with ⟨rfl, a, cap, rfl⟩ | ⟨b, off, cap, rfl, R⟩
  · exact (gather41_nil a cap w).mono fun e w' ⟨he, hb⟩ => ⟨_, _, he, Or.inl ⟨rfl, _, _, rfl⟩, Or.inl ⟨rfl, _, _, rfl⟩, hb⟩
  · exact (gather41_row xs b off cap w hl hN R).mono fun e w' ⟨A4, A5, c4, c5, D, he, hS⟩ => ⟨_, _, he, (st_sl hS).1, (st_sl hS).2, hS.bl⟩
theorem unlike29 (xs : List K) (v : Value) (w : World) (hl : xs.length * 24 ≤ 140737488351232) (hN : Oks xs) (R : Sl w v xs) :
    Calls Tryd.prog 29 #[v] w fun e w' => ∃ v, e = .returned v ∧ Sl w' v (unl [] xs) ∧ Below w.heap.size w w' := by
  have A : Hid _ := gather41 xs v w hl hN R
  clear R hN hl
  go_enter Tryd.func29, Tryd.ntmps29
  go_wp2_with fail
  refine Calls.mono A.out ?_
  rintro e w1 ⟨v4, v5, rfl, h1, h2, h3⟩
  go_wp2_with fail
  go_ret
  exact ⟨_, rfl, h1, h3⟩
theorem count30 (xs : List K) (v : Value) (w : World) (hl : xs.length * 24 ≤ 140737488351232) (hN : Oks xs) (R : Sl w v xs) :
    Calls Tryd.prog 30 #[v] w fun e w' => ∃ v, e = .returned v ∧ SlI w' v (counts (unl [] xs) xs) ∧ Below w.heap.size w w' := by
  have A : Hid _ := gather41 xs v w hl hN R
  clear R hN hl
  go_enter Tryd.func30, Tryd.ntmps30
  go_wp2_with fail
  refine Calls.mono A.out ?_
  rintro e w1 ⟨v4, v5, rfl, h1, h2, h3⟩
  go_wp2_with fail
  go_ret
  exact ⟨_, rfl, h2, h3⟩
end Go.Proofs.YtbaljfkjgfkdiaaDoor
