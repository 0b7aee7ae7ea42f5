/- A text read as a program, by the document; the text is within the form's reach. -/
import Derived.Test.YthakboiecdjgnaaDoorKtl
import Derived.Test.YthakboiecdjgnaaDoorKtm
namespace Go.Proofs.YthakboiecdjgnaaDoor.Kt
open Go.RowKit Go.Sort Go.Shelf
open Go.Proofs.YthakboiecdjgnaaDoor.Ci
set_option linter.unusedVariables false
theorem ext_list (s : ByteArray) (a b : Nat) : (s.extract a b).data.toList = (s.data.toList.drop a).take (b - a) := by rw [Lib.extract_data]
theorem seg_no {s : ByteArray} {a b : Nat} (hb : b ≤ s.size) (h : ∀ k, (hk : k < s.size) → a ≤ k → k < b → s[k].toNat ≠ 10) : noB 10 (s.extract a b).data.toList := fun c hc e => by
  rw [ext_list] at hc
  obtain ⟨i, hi, rfl⟩ := List.getElem_of_mem hc
  rw [List.length_take, List.length_drop] at hi
  have hl : s.data.toList.length = s.size := rfl
  rw [List.getElem_take, List.getElem_drop] at e
  exact h (a + i) (by omega) (by omega) (by omega) (by have : s[a + i]'(by omega) = s.data.toList[a + i]'(by omega) := rfl; rw [this, e]; rfl)
theorem cut_mid {s : ByteArray} {a b : Nat} (hab : a ≤ b) (hb : b < s.size) (h10 : s[b].toNat = 10) (h : ∀ k, (hk : k < s.size) → a ≤ k → k < b → s[k].toNat ≠ 10) : Lib.cut (s.data.toList.drop a) [10] = ((s.extract a b).data.toList, s.data.toList.drop (b + 1), true) := by
  have hl : s.data.toList.length = s.size := rfl
  have e : s.data.toList.drop a = (s.extract a b).data.toList ++ 10 :: s.data.toList.drop (b + 1) := by
    rw [ext_list, show (10 : UInt8) = s.data.toList[b]'(by omega) from UInt8.toNat_inj.1 (by have : s[b] = s.data.toList[b]'(by omega) := rfl; rw [← this, h10]; rfl), ← List.drop_eq_getElem_cons (by omega)]
    have e2 : s.data.toList.drop b = (s.data.toList.drop a).drop (b - a) := by rw [List.drop_drop]; congr 1; omega
    rw [e2, List.take_append_drop]
  rw [e]
  exact cut_at 10 _ _ (seg_no (by omega) h)
theorem cut_last {s : ByteArray} {a : Nat} (ha : a ≤ s.size) (h : ∀ k, (hk : k < s.size) → a ≤ k → k < s.size → s[k].toNat ≠ 10) : Lib.cut (s.data.toList.drop a) [10] = ((s.extract a s.size).data.toList, [], false) := by
  have hl : s.data.toList.length = s.size := rfl
  have e : s.data.toList.drop a = (s.extract a s.size).data.toList := by
    rw [ext_list, List.take_of_length_le (by rw [List.length_drop]; omega)]
  rw [e]
  exact cut_no 10 _ (seg_no (Nat.le_refl _) h)
theorem ba_back (x : ByteArray) : (⟨x.data.toList.toArray⟩ : ByteArray) = x := ba_ext (by simp)
/-- Between the rounds. -/
structure PdI (w wr : World) (s : ByteArray) (a b n : Nat) (out : List Dz) (v : Value) (T : TypeId) : Prop where
  p : prs s.data.toList 0 [] = prs (s.data.toList.drop a) n out
  l : out.length = n
  no : ∀ k, (hk : k < s.size) → a ≤ k → k < b → s[k].toNat ≠ 10
  o : wr.ownsRow w.heap.size T 5 v n (cellsD out)
  t : Touch [] w wr
theorem PdI.touch {w wr w1 : World} {s : ByteArray} {a b n : Nat} {out : List Dz} {v : Value} {T : TypeId} (h : PdI w wr s a b n out v T) (t : Touch [] wr w1) : PdI w w1 s a b n out v T :=
  ⟨h.p, h.l, h.no, own_touch h.o t (by simp), h.t.trans' t⟩
theorem PdI.more {w wr : World} {s : ByteArray} {a b n : Nat} {out : List Dz} {v : Value} {T : TypeId} (h : PdI w wr s a b n out v T) (hb : b < s.size) (h10 : s[b].toNat ≠ 10) : PdI w wr s a (b + 1) n out v T :=
  ⟨h.p, h.l, fun k hk h1 h2 => by rcases (by omega : k < b ∨ k = b) with h' | rfl; exact h.no k hk h1 h'; exact h10, h.o, h.t⟩
set_option maxRecDepth 20000 in
set_option maxHeartbeats 4000000 in
theorem parse13 (s : ByteArray) (w : World) (hs0 : s.size ≤ 2000000000) :
    Calls Tryd.prog 13 #[.string s] w fun e w' => PrE 85 e w w' (prs s.data.toList 0 []) := by
  have hl0 : s.data.toList.length = s.size := rfl
  go_enter Tryd.func13, Tryd.ntmps13
  go_wp2
  go_loopw [5, 6, 7, 8] (fun t5 t6 t7 t8 wr => ∃ (a b n : Nat) (out : List Dz) (A : Option Addr) (C : Nat), t6 = .int .i64 n ∧ t7 = .int .i64 a ∧ t8 = .int .i64 b ∧ t5 = .slice A n C ∧ a ≤ b ∧ b ≤ s.size ∧ n ≤ a ∧ Hid (PdI w wr s a b n out (.slice A n C) 85)) (fun _ _ _ t8 _ => s.size - (intOf t8).toNat)
  case atStart => exact ⟨0, 0, 0, [], _, _, rfl, rfl, rfl, rfl, Nat.le_refl _, Nat.zero_le _, Nat.le_refl _, hid ⟨by rw [List.drop_zero], rfl, fun k _ _ h => absurd h (Nat.not_lt_zero _), World.ownsRow_made (e := 85) (size := 5) w #[] 0 (Nat.le_refl _) (by unfold maxLen; omega) rfl, (Touch.refl [] w).alloc _⟩⟩
  case round =>
    obtain ⟨a, b, n, out, A, C, rfl, rfl, rfl, rfl, hab, hb, hna, HI⟩ := hrel
    have hz : (b : Int) ≤ (s.size : Int) := by omega
    by_cases hlt : b < s.size
    · have hz1 : (b : Int) < (s.size : Int) := by omega
      have hz2 : (b : Int) ≠ (s.size : Int) := by omega
      have hz3 : ((b : Int) == (s.size : Int)) = false := by simpa using hz2
      by_cases h10 : s[b].toNat = 10
      · have hcm := cut_mid hab hlt h10 HI.out.no
        have h0 : s.data.toList.drop a ≠ [] := fun e => by have := congrArg List.length e; rw [List.length_drop] at this; simp at this; omega
        have HB := hid (fun h => HI.out.p.trans (prs_bad (l := s.data.toList.drop a) n out h0 h))
        have HG := hid (fun d h1 h2 => HI.out.p.trans (prs_go (l := s.data.toList.drop a) n out d h0 h1 h2))
        rw [hcm] at HB HG
        dsimp only at HB HG
        rw [ba_back] at HB HG
        have hsl : ∀ w, (Instr.slice 9 (.string s) (some (.int .i64 (a : Int))) (some (.int .i64 (b : Int))) none).run Tryd.prog w = .ok (.string (s.extract a b)) w := fun w => by
          rw [run_slice_string w 9 s .i64 .i64 (a : Int) (b : Int) Tryd.underlying9 (by omega) (by omega) (by omega)]
          rw [show ((a : Int)).toNat = a by omega, show ((b : Int)).toNat = b by omega]
        have hez : (s.extract a b).size ≤ 2000000000 := by rw [ByteArray.size_extract]; omega
        have h10' : (s[b].toNat : Int) = 10 := by omega
        clear hcm h0 h10
        generalize s.extract a b = E at *
        have HD := hid (fun w' => rline38 E w' hez)
        clear hez
        generalize rdZ E = RD at *
        cases RD with
        | none =>
          unfold doV at HD
          have HE : Hid (prs s.data.toList 0 [] = ([], n, 212)) := HB.out rfl
          go_wp2_with fail
          refine (HD.out _).mono ?_
          rintro e w2 ⟨rfl, t2⟩
          have I2 := hid (HI.out.touch t2)
          clear t2
          go_wp2_with fail
          go_ret3
          exact ⟨none, 0, by rw [HE.out]; rfl, by rw [HE.out]; exact own_nil _ _ _ _, I2.out.t.alloc _⟩
        | some d =>
          unfold doV at HD
          have HP2 := hid (HG.out d rfl rfl)
          have HCD : Hid (cellsD (out ++ [d]) = cellsD out ++ [.int .i64 d.op, .int .u16 d.sp, .string d.nm, .int .i64 d.n, .int .i64 d.sl]) := cellsD_snoc _ d
          go_wp2_with fail
          refine (HD.out _).mono ?_
          rintro e w2 ⟨rfl, t2⟩
          have I2 := hid (HI.out.touch t2)
          clear t2
          go_wp2_with (at_builtin; refine wpList_append_rs rfl _ _ 28 85 rfl _ 5 48 infoR Tryd.underlying28 rfl (by decide) w.heap.size _ n _ rfl (own_touch I2.out.o (((Touch.refl [] w2).alloc _).alloc _) (by simp)) _ 1 [.int .i64 d.op, .int .u16 d.sp, .string d.nm, .int .i64 d.n, .int .i64 d.sl] rfl (RsNew _ #[.int .i64 d.op, .int .u16 d.sp, .string d.nm, .int .i64 d.n, .int .i64 d.sl] 85 5 rfl (w2.heap.size + 1) (by simp)) (fun y hy => by simp only [List.mem_cons, List.not_mem_nil, or_false] at hy; rcases hy with rfl | rfl | rfl | rfl | rfl <;> rfl) (by unfold maxLen; omega) (by omega) (Nat.le_trans I2.out.t.size (by first | (simp; done) | (simp; omega))) ?_; intro v3 w3 o3 g3 n3; obtain ⟨a3, c3', e3⟩ := own_form o3; subst e3)
          have HO3 := hid o3
          have T3 := hid (touch_grown ((I2.out.t.alloc _).alloc _) g3 (own_touch I2.out.o (((Touch.refl [] w2).alloc _).alloc _) (by simp)) (Nat.le_refl _))
          clear o3 g3 n3
          go_roundw
          case rel => exact ⟨b + 1, b + 1, n + 1, out ++ [d], a3, c3', by go_num, by go_num, by go_num, rfl, Nat.le_refl _, by omega, by omega, hid ⟨HP2.out, by rw [List.length_append, I2.out.l]; rfl, fun k _ h1 h2 => by omega, by rw [HCD.out]; exact HO3.out, T3.out⟩⟩
          case measure => simp [intOf]; omega
      · have h10' : ¬ (s[b].toNat : Int) = 10 := by omega
        have HI2 := hid (HI.out.more hlt h10)
        go_wp2
        go_roundw
        case rel => exact ⟨a, b + 1, n, out, A, C, rfl, rfl, by go_num, rfl, by omega, by omega, hna, HI2⟩
        case measure => simp [intOf]; omega
    · obtain rfl : b = s.size := by omega
      have hz1 : ¬ ((s.size : Nat) : Int) < (s.size : Int) := by omega
      by_cases hae : a = s.size
      · subst hae
        have HR := hid (HI.out.p.trans ((congrArg (fun l => prs l n out) (List.drop_of_length_le (Nat.le_of_eq hl0))).trans (prs_nil n out)))
        by_cases hn : 256 < n
        · have hn' : (256 : Int) < (n : Int) := by omega
          have HR2 : Hid (prs s.data.toList 0 [] = ([], 256, 3)) := by show _ = _; rw [HR.out, if_pos hn]
          clear hn
          go_wp2
          go_ret3
          exact ⟨none, 0, by rw [HR2.out]; rfl, by rw [HR2.out]; exact own_nil _ _ _ _, HI.out.t⟩
        · have hn' : ¬ (256 : Int) < (n : Int) := by omega
          have HR2 : Hid (prs s.data.toList 0 [] = (out, 0, 0)) := by show _ = _; rw [HR.out, if_neg hn]
          clear hn
          go_wp2
          go_ret3
          exact ⟨A, C, by rw [HR2.out, HI.out.l]; rfl, by rw [HR2.out, HI.out.l]; exact HI.out.o, HI.out.t⟩
      · have hae' : ((a : Int) == (s.size : Int)) = false := by simp; omega
        have hae2 : ¬ (a : Int) = (s.size : Int) := by omega
        have hcm := cut_last hab HI.out.no
        have h0 : s.data.toList.drop a ≠ [] := fun e => by have := congrArg List.length e; rw [List.length_drop] at this; simp at this; omega
        have HE : Hid (prs s.data.toList 0 [] = ([], n, 212)) := HI.out.p.trans (prs_open (l := s.data.toList.drop a) n out h0 (by rw [hcm]))
        have hsl : ∀ w, (Instr.slice 9 (.string s) (some (.int .i64 (a : Int))) (some (.int .i64 (s.size : Int))) none).run Tryd.prog w = .ok (.string (s.extract a s.size)) w := fun w => by
          rw [run_slice_string w 9 s .i64 .i64 (a : Int) (s.size : Int) Tryd.underlying9 (by omega) (by omega) (by omega)]
          rw [show ((a : Int)).toNat = a by omega, show ((s.size : Int)).toNat = s.size by omega]
        have hez : (s.extract a s.size).size ≤ 2000000000 := by rw [ByteArray.size_extract]; omega
        clear hcm h0
        generalize s.extract a s.size = E at *
        have HD := hid (fun w' => rline38 E w' hez)
        clear hez
        generalize rdZ E = RD at *
        cases RD with
        | none =>
          unfold doV at HD
          go_wp2_with fail
          refine (HD.out _).mono ?_
          rintro e w2 ⟨rfl, t2⟩
          have I2 := hid (HI.out.touch t2)
          clear t2
          go_wp2_with fail
          go_ret3
          exact ⟨none, 0, by rw [HE.out]; rfl, by rw [HE.out]; exact own_nil _ _ _ _, I2.out.t.alloc _⟩
        | some d =>
          unfold doV at HD
          go_wp2_with fail
          refine (HD.out _).mono ?_
          rintro e w2 ⟨rfl, t2⟩
          have I2 := hid (HI.out.touch t2)
          clear t2
          go_wp2_with fail
          go_ret3
          exact ⟨none, 0, by rw [HE.out]; rfl, by rw [HE.out]; exact own_nil _ _ _ _, I2.out.t.alloc _⟩
end Go.Proofs.YthakboiecdjgnaaDoor.Kt
