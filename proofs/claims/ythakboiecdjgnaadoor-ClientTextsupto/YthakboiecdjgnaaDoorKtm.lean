/- A text read as a program, by the program; the conditions: the table and the library's variables hold what the start lays, the text is within the form's reach. -/
import Derived.Test.YthakboiecdjgnaaDoorKti
import Derived.Test.YthakboiecdjgnaaDoorCrf
import Derived.Test.YthakboiecdjgnaaDoorChd
namespace Go.Proofs.YthakboiecdjgnaaDoor.Kt
open Go.RowKit Go.Sort Go.Shelf
open Go.Proofs.YthakboiecdjgnaaDoor.Ci
set_option linter.unusedVariables false
def PrE (T : TypeId) (e : Ending) (w w' : World) (R : List Dz × Nat × Int) : Prop := ∃ a c, e = .returned (.tuple #[.slice a R.1.length c, .int .i64 R.2.1, .int .i64 R.2.2]) ∧ w'.ownsRow w.heap.size T 5 (.slice a R.1.length c) R.1.length (cellsD R.1) ∧ Touch [] w w'
theorem cellsD_snoc (L : List Dz) (d : Dz) : cellsD (L ++ [d]) = cellsD L ++ d.cells := by
  unfold cellsD
  rw [List.flatMap_append, List.flatMap_cons, List.flatMap_nil, List.append_nil]
theorem ba_nil {u : ByteArray} (h : u.data.toList = []) : u = ⟨#[]⟩ := ba_ext (by rw [h])
theorem take_more {out : List Dz} {n : Nat} (d : Dz) (h : out.length = n) (hn : n < 256) : (out ++ [d]).take 256 = out.take 256 ++ [d] := by
  rw [List.take_of_length_le (by simp; omega), List.take_of_length_le (by omega)]
theorem take_full {out : List Dz} {n : Nat} (d : Dz) (h : out.length = n) (hn : 256 ≤ n) : (out ++ [d]).take 256 = out.take 256 := by
  rw [List.take_append_of_le_length (by omega)]
theorem nm_empty' {u : ByteArray} (h : u.toList = []) : u = ⟨#[]⟩ := ba_nil (by rw [← ByteArray.toList_eq, h])
theorem cut_first (l : List UInt8) (x : UInt8) : (Lib.cut l [x]).1.length ≤ l.length := by
  unfold Lib.cut
  split
  · simp only [List.length_take]; omega
  · exact Nat.le_refl _
theorem RsNew (w : World) (cs : Array Value) (t k : Nat) (hs : cs.size = k) (b : Nat) (hb : b = w.heap.size) : Rs t k (w.alloc (.cells cs t)) (.slice (some ⟨b, 0, none⟩) 1 1) 1 cs.toList := by
  subst hb
  exact Rs.new w cs t k hs
/-- Between the rounds. -/
structure PrI (w wr : World) (s u : ByteArray) (n : Nat) (out : List Dz) (m : Nat) (v : Value) (T : TypeId) : Prop where
  p : prs s.data.toList 0 [] = prs u.data.toList n out
  l : out.length = n
  ml : m = (out.take 256).length
  o : wr.ownsRow w.heap.size T 5 v m (cellsD (out.take 256))
  t : Touch [] w wr
theorem PrI.touch {w wr w1 : World} {s u : ByteArray} {n m : Nat} {out : List Dz} {v : Value} {T : TypeId} (h : PrI w wr s u n out m v T) (t : Touch [] wr w1) : PrI w w1 s u n out m v T :=
  ⟨h.p, h.l, h.ml, own_touch h.o t (by simp), h.t.trans' t⟩
set_option maxRecDepth 20000 in
set_option maxHeartbeats 4000000 in
theorem parse12 (s : ByteArray) (w : World) (hS : Sy w) (hs0 : s.size ≤ 2000000000) :
    Calls Tryd.prog 12 #[.string s] w fun e w' => PrE 47 e w w' (prs s.data.toList 0 []) := by
  have HS := hid hS
  clear hS
  go_enter Tryd.func12, Tryd.ntmps12
  go_wp2
  go_loopw [0, 5, 6] (fun t0 t5 t6 wr => ∃ (u : ByteArray) (n : Nat) (out : List Dz) (A : Option Addr) (C m : Nat), t0 = .string u ∧ t6 = .int .i64 n ∧ t5 = .slice A m C ∧ u.size + n ≤ s.size ∧ m ≤ 256 ∧ Hid (PrI w wr s u n out m (.slice A m C) 47)) (fun t0 _ _ _ => match t0 with | .string u => u.size | _ => 0)
  case atStart => exact ⟨s, 0, [], none, 0, 0, rfl, rfl, rfl, by omega, by omega, hid ⟨rfl, rfl, rfl, own_nil _ _ _ _, Touch.refl [] _⟩⟩
  case round =>
    obtain ⟨u, n, out, A, C, m, rfl, rfl, rfl, hsz, hm, HI⟩ := hrel
    by_cases h0 : u.data.toList = []
    · have hu := ba_nil h0
      subst hu
      have HR := hid (HI.out.p.trans (prs_nil n out))
      have e1 : ((ByteArray.mk #[]).toList == (ByteArray.mk #[]).toList) = true := by simp
      by_cases hn : 256 < n
      · have hn' : (256 : Int) < (n : Int) := by omega
        have HR2 : Hid (prs s.data.toList 0 [] = ([], 256, 3)) := by show _ = _; rw [HR.out, if_pos hn]
        clear hn
        go_wp2
        go_ret3
        exact ⟨none, 0, by rw [HR2.out]; rfl, by rw [HR2.out]; exact own_nil _ _ _ _, HI.out.t⟩
      · have hn' : ¬ (256 : Int) < (n : Int) := by omega
        have HR2 : Hid (prs s.data.toList 0 [] = (out, 0, 0)) := by show _ = _; rw [HR.out, if_neg hn]
        have HM : Hid (m = out.length ∧ out.take 256 = out) := by
          have e : out.take 256 = out := List.take_of_length_le (by have := HI.out.l; omega)
          exact ⟨by have := HI.out.ml; rw [e] at this; exact this, e⟩
        clear hn
        go_wp2
        go_ret3
        exact ⟨A, C, by rw [HR2.out, ← HM.out.1]; rfl, by have := HI.out.o; rw [HM.out.2] at this; rw [HR2.out, ← HM.out.1]; exact this, HI.out.t⟩
    · have hne : u ≠ ⟨#[]⟩ := fun e => h0 (by rw [e])
      have e1 : (u.toList == []) = false := Bool.eq_false_iff.2 (fun h => hne (nm_empty' (by simpa using h)))
      have e2 : u.toList.isEmpty = false := Bool.eq_false_iff.2 (fun h => hne (nm_empty' (by simpa using h)))
      have e3 : (u.toList == (ByteArray.mk #[]).toList) = false := Bool.eq_false_iff.2 (fun h => hne ((beqB _ _).1 h))
      have HC := hid (cut_ u 10 wr (HS.out.touch HI.out.t) (by omega))
      have hrs : (ByteArray.mk (Lib.cut u.data.toList [10]).2.1.toArray).size = (Lib.cut u.data.toList [10]).2.1.length := by simp [ByteArray.size]
      have hus : u.size = u.data.toList.length := rfl
      have HD := hid (fun w' (t : Touch [] w w') => doOf_ ⟨(Lib.cut u.data.toList [10]).1.toArray⟩ w' (HS.out.touch t) (by
        have h1 := cut_first u.data.toList 10
        have h2 : (ByteArray.mk (Lib.cut u.data.toList [10]).1.toArray).size = (Lib.cut u.data.toList [10]).1.length := by simp [ByteArray.size]
        omega))
      have HO := hid (fun h => HI.out.p.trans (prs_open (l := u.data.toList) n out h0 h))
      have HB := hid (fun h => HI.out.p.trans (prs_bad (l := u.data.toList) n out h0 h))
      have HG := hid (fun d h1 h2 => HI.out.p.trans (prs_go (l := u.data.toList) n out d h0 h1 h2))
      have HZ := hid (fun h => cut_lt u.data.toList h)
      rw [← hrs, ← hus] at HZ
      have HT : Hid ((Lib.cut u.data.toList [10]).2.1 = (ByteArray.mk (Lib.cut u.data.toList [10]).2.1.toArray).data.toList) := by show _ = _; simp
      rw [HT.out] at HG
      clear HT hrs hus h0 hne
      generalize (Lib.cut u.data.toList [10]).2.2 = vb at *
      generalize (ByteArray.mk (Lib.cut u.data.toList [10]).1.toArray) = W at *
      generalize hRR : (ByteArray.mk (Lib.cut u.data.toList [10]).2.1.toArray) = R at *
      clear hRR
      generalize rdZ W = RD at *
      go_wp2_with fail
      refine HC.out.mono ?_
      rintro e w1 ⟨rfl, t1⟩
      have I1 := hid (HI.out.touch t1)
      clear t1
      cases RD with
      | none =>
        unfold doV at HD
        have HE : Hid (prs s.data.toList 0 [] = ([], n, 212)) := HB.out rfl
        go_wp2_with fail
        refine (HD.out _ I1.out.t).mono ?_
        rintro e w2 ⟨rfl, t2⟩
        have I2 := hid (I1.out.touch t2)
        clear t2
        cases vb with
        | true =>
          go_wp2_with fail
          go_ret3
          exact ⟨none, 0, by rw [HE.out]; rfl, by rw [HE.out]; exact own_nil _ _ _ _, I2.out.t.alloc _⟩
        | false =>
          go_wp2_with fail
          go_ret3
          exact ⟨none, 0, by rw [HE.out]; rfl, by rw [HE.out]; exact own_nil _ _ _ _, I2.out.t.alloc _⟩
      | some d =>
        unfold doV at HD
        have HGG := hid (fun h => HG.out d h rfl)
        have HTM := hid (@take_more out n d HI.out.l)
        have HTF := hid (@take_full out n d HI.out.l)
        have HCD : Hid (cellsD (out.take 256 ++ [d]) = cellsD (out.take 256) ++ [.int .i64 d.op, .int .u16 d.sp, .string d.nm, .int .i64 d.n, .int .i64 d.sl]) := cellsD_snoc _ d
        go_wp2_with fail
        refine (HD.out _ I1.out.t).mono ?_
        rintro e w2 ⟨rfl, t2⟩
        have I2 := hid (I1.out.touch t2)
        clear t2
        cases vb with
        | false =>
          have HE : Hid (prs s.data.toList 0 [] = ([], n, 212)) := HO.out rfl
          go_wp2_with fail
          go_ret3
          exact ⟨none, 0, by rw [HE.out]; rfl, by rw [HE.out]; exact own_nil _ _ _ _, I2.out.t.alloc _⟩
        | true =>
          have HP2 := hid (HGG.out (by trivial))
          have hlt := HZ.out (by trivial)
          by_cases hn : n < 256
          · have hn' : (n : Int) < 256 := by omega
            have HT2 := hid (HTM.out hn)
            go_wp2_with (at_builtin; refine wpList_append_rs rfl _ _ 22 47 rfl _ 5 48 infoD Tryd.underlying22 rfl (by decide) w.heap.size _ m _ rfl (own_touch I2.out.o (((Touch.refl [] w2).alloc _).alloc _) (by simp)) _ 1 [.int .i64 d.op, .int .u16 d.sp, .string d.nm, .int .i64 d.n, .int .i64 d.sl] rfl (RsNew _ #[.int .i64 d.op, .int .u16 d.sp, .string d.nm, .int .i64 d.n, .int .i64 d.sl] 47 5 rfl (w2.heap.size + 1) (by simp)) (fun y hy => by simp only [List.mem_cons, List.not_mem_nil, or_false] at hy; rcases hy with rfl | rfl | rfl | rfl | rfl <;> rfl) (by unfold maxLen; omega) (by omega) (Nat.le_trans I2.out.t.size (by first | (simp; done) | (simp; omega))) ?_; intro v3 w3 o3 g3 n3; obtain ⟨a3, c3', e3⟩ := own_form o3; subst e3)
            have HO3 := hid o3
            have T3 := hid (touch_grown ((I2.out.t.alloc _).alloc _) g3 (own_touch I2.out.o (((Touch.refl [] w2).alloc _).alloc _) (by simp)) (Nat.le_refl _))
            clear o3 g3 n3
            go_roundw
            case rel => exact ⟨R, n + 1, out ++ [d], a3, c3', m + 1, rfl, by go_num, rfl, by omega, by have := I2.out.ml; rw [List.length_take] at this; have := I2.out.l; omega, hid ⟨HP2.out, by rw [List.length_append, I2.out.l]; rfl, by rw [HT2.out, List.length_append, ← I2.out.ml]; rfl, by rw [HT2.out, HCD.out]; exact HO3.out, T3.out⟩⟩
            case measure => exact hlt
          · have hn' : ¬ (n : Int) < 256 := by omega
            have HT2 := hid (HTF.out (by omega))
            go_wp2_with fail
            go_roundw
            case rel => exact ⟨R, n + 1, out ++ [d], A, C, m, rfl, by go_num, rfl, by omega, hm, hid ⟨HP2.out, by rw [List.length_append, I2.out.l]; rfl, by rw [HT2.out]; exact I2.out.ml, by rw [HT2.out]; exact own_touch I2.out.o ((Touch.refl [] w2).alloc _) (by simp), I2.out.t.alloc _⟩⟩
            case measure => exact hlt
end Go.Proofs.YthakboiecdjgnaaDoor.Kt
