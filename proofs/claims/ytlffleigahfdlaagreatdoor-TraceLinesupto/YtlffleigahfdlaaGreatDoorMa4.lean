/- What a replacer writes into; no conditions but those that each states. -/
import Derived.Test.YtlffleigahfdlaaGreatDoorFfe
import Derived.Test.YtlffleigahfdlaaGreatDoorMa1
import Derived.Test.YtlffleigahfdlaaGreatDoorFgg
import Derived.Deep.RegionWith
namespace Go.Proofs.YtlffleigahfdlaaGreatDoor.Tr
open Go.RowKit Go.Sort Go.Shelf Go.Maps Go.ChangeMaps
set_option linter.unusedVariables false
set_option linter.unusedSimpArgs false
/-- A writer that gathers bytes: block b. -/
def Wb (U w : World) (b : Nat) (L : List UInt8) : Prop := ∃ v, w.heap[b]? = some (.cells #[v] 294 (0, 0)) ∧ Ob U U.heap.size L v w ∧ U.heap.size ≤ b
theorem Wb.touch {U w w' : World} {b : Nat} {L : List UInt8} (h : Wb U w b L) (t : Touch [] w w') : Wb U w' b L := by
  obtain ⟨v, h0, h1, h2⟩ := h
  exact ⟨v, t.keep h0 (by simp), h1.touch t, h2⟩
theorem Wb.tt {U w : World} {b : Nat} {L : List UInt8} (h : Wb U w b L) : Touch [] U w := by
  obtain ⟨v, h0, h1, h2⟩ := h
  exact h1.2.1
theorem Wb.store {U w w1 : World} {b : Nat} {L m : List UInt8} {v v' : Value} (hb : w.heap[b]? = some (.cells #[v] 294 (0, 0))) (ho : Ob U U.heap.size L v w) (h2 : U.heap.size ≤ b) (o : w1.ownsRow U.heap.size 5 1 v' (L.length + m.length) (bcl L ++ bcl m)) (g : w.grownBy w1 v.ownBlock) :
    w1.heap[b]? = some (.cells #[v] 294 (0, 0)) ∧ Wb U (w1.setCell ⟨b, 0, none⟩ v') b (L ++ m) := by
  have hne : v.ownBlock ≠ some b := fun e => by
    obtain ⟨cs, hc⟩ := own_kind ho.1 e
    rw [hb] at hc
    simp at hc
  have hb1 : w1.heap[b]? = some (.cells #[v] 294 (0, 0)) := (g.block b (block_lt hb) (fun e => hne e.symm)).trans hb
  have hne' : v'.ownBlock ≠ some b := fun e => by
    obtain ⟨cs, hc⟩ := own_kind o e
    rw [hb1] at hc
    simp at hc
  have o2 := ho.add o g
  have ts : Touch [b] w1 (w1.setCell ⟨b, 0, none⟩ v') := (Touch.refl [b] w1).setCell (p := ⟨b, 0, none⟩) (Or.inl (by simp)) _
  exact ⟨hb1, v', heap_set hb1 v', ⟨own_touch o2.1 ts (fun k hk hm => hne' (by simp only [List.mem_singleton] at hm; rw [← hm]; exact hk)), o2.2.1.trans ts (fun i hi => Or.inr (by simp only [List.mem_singleton] at hi; omega)), by simp [World.setCell]; exact o2.2.2.1, o2.2.2.2⟩, h2⟩
set_option maxHeartbeats 2000000 in
theorem sw_ {U w : World} {b : Nat} {L : List UInt8} (h : Wb U w b L) (x : ByteArray) (hl : L.length + x.size ≤ 1099511627777) :
    Calls Tryz.prog 252 #[.pointer (some ⟨b, 0, none⟩), .string x] w fun e w' => e = .returned (.tuple #[.int .i64 x.size, .nilIface]) ∧ Wb U w' b (L ++ x.data.toList) := by
  obtain ⟨v, h0, h1, h2⟩ := h
  obtain ⟨va, vc, hv⟩ := own_form h1.1
  subst hv
  obtain ⟨i5, f5, y5, x5, b5⟩ := info_parts info5
  have c0 := cell_at h0 (j := 0) (v := .slice va L.length vc) rfl
  have HI := hid (And.intro f5 (And.intro y5 (And.intro x5 b5)))
  have HL1 := hid (show L.length + x.size ≤ maxLen by unfold maxLen; omega)
  have HL2 := hid (show L.length + x.size ≤ 140737488355328 by omega)
  have HO := hid h1
  have HS := hid (fun (v' : Value) (w1 : World) (o : w1.ownsRow U.heap.size 5 1 v' (L.length + x.data.toList.length) (bcl L ++ bcl x.data.toList)) (g : w.grownBy w1 (Value.slice va L.length vc).ownBlock) => Wb.store h0 h1 h2 o g)
  generalize hln : L.length = ln at *
  clear h0 h1 h2 f5 y5 x5 b5 hl
  go_enter Tryz.func252, Tryz.ntmps252
  go_wp2_with (at_builtin; go_must (refine Lib.wpList_append_own_string _ rfl _ _ 294 9 rfl U.heap.size 5 i5 Tryz.underlying294 Tryz.underlying9 HI.out.1 HI.out.2.1 HI.out.2.2.1 HI.out.2.2.2 (.slice va ln vc) _ _ rfl (hln ▸ HO.out.1) x rfl HL1.out HL2.out HO.out.2.2.1 ?_); intro v6 w6 o6 g6 e6; clear e6; obtain ⟨k1, k2⟩ := HS.out v6 w6 o6 g6; have K2 := hid k2; have c6 := cell_at k1 (j := 0) (v := .slice va ln vc) rfl; have f6 := froz_at k1 0; obtain ⟨a6, l6, e6⟩ := own_form o6; subst e6; clear o6 g6 k1 k2)
  go_ret2
  exact ⟨rfl, K2.out⟩
end Go.Proofs.YtlffleigahfdlaaGreatDoor.Tr
/- A generic replacer writes a text; no conditions but those that each states. -/
namespace Go.Proofs.YtlffleigahfdlaaGreatDoor.Tr
open Go.RowKit Go.Sort Go.Shelf Go.Maps Go.ChangeMaps
set_option linter.unusedVariables false
set_option linter.unusedSimpArgs false
theorem assertW (v : Value) (w : World) : (Instr.typeAssert (.iface 295 v) 297 299 true).run Tryz.prog w = .ok (.tuple #[.iface 295 v, .bool true]) w := by kernel_rfl
theorem methW (v : Value) (w : World) : Sem.run Tryz.prog (method 407 295 v "WriteString") w = .ok (252, v) w := by kernel_rfl
theorem nilW (b : Nat) (w : World) : Sem.run Tryz.prog (nilAhead 407 295 (.pointer (some ⟨b, 0, none⟩)) "WriteString") w = .ok (some false) w := by kernel_rfl
theorem gsw_ (b : Nat) (w : World) : Calls Tryz.prog 240 #[.iface 295 (.pointer (some ⟨b, 0, none⟩))] w fun e w' => e = .returned (.iface 295 (.pointer (some ⟨b, 0, none⟩))) ∧ w' = w := by
  have ha := assertW
  go_enter Tryz.func240, Tryz.ntmps240
  go_wp2_with fail
  go_ret
  exact ⟨rfl, rfl⟩
theorem unF_len : ∀ (n : Nat) (l : List UInt8), l.length ≤ n → (unF l).length ≤ l.length
  | 0, l, h => by
    cases l with
    | nil => simp [unF]
    | cons a l => simp at h
  | n + 1, l, h => by
    cases l with
    | nil => simp [unF]
    | cons a l =>
      simp only [List.length_cons] at h
      cases hk : lkL (a :: l) with
      | none =>
        rw [unF_no hk, List.length_cons, List.length_cons]
        have := unF_len n l (by omega)
        omega
      | some x =>
        obtain ⟨h1, h2⟩ := unF_hit hk
        rw [h1, List.length_cons]
        have h3 := unF_len n ((a :: l).drop 3) (by rw [List.length_drop]; simp only [List.length_cons]; omega)
        rw [List.length_drop] at h3
        simp only [List.length_cons] at *
        omega
/-- Midway: what is written, what waits, and what is still to be read. -/
def Mw (l O : List UInt8) (la i : Nat) : Prop := la ≤ i ∧ la ≤ l.length ∧ i ≤ l.length + 1 ∧ unF l = O ++ (l.take i).drop la ++ unF (l.drop i)
theorem Mw.more {l O : List UInt8} {la i : Nat} (h : Mw l O la i) (hi : i < l.length) (hk : lkL (l.drop i) = none) : Mw l O la (i + 1) := by
  obtain ⟨h1, h2, h3, h4⟩ := h
  refine ⟨by omega, h2, by omega, ?_⟩
  rw [List.drop_eq_getElem_cons hi] at hk h4
  rw [h4, unF_no hk, List.take_add_one, List.getElem?_eq_getElem hi, Option.toList_some, List.drop_append_of_le_length (by rw [List.length_take]; omega)]
  simp
theorem Mw.hit {l O : List UInt8} {la i : Nat} {x : UInt8} (h : Mw l O la i) (hk : lkL (l.drop i) = some x) : Mw l (O ++ (l.take i).drop la ++ [x]) (i + 3) (i + 3) ∧ i + 3 ≤ l.length := by
  obtain ⟨h1, h2, h3, h4⟩ := h
  obtain ⟨k1, k2⟩ := unF_hit hk
  rw [List.length_drop] at k2
  refine ⟨⟨Nat.le_refl _, by omega, by omega, ?_⟩, by omega⟩
  rw [h4, k1, List.drop_drop, List.drop_take_self]
  simp
theorem Mw.last {l O : List UInt8} {la : Nat} (h : Mw l O la l.length) : Mw l O la (l.length + 1) := by
  obtain ⟨h1, h2, h3, h4⟩ := h
  have e1 : l.take (l.length + 1) = l := List.take_of_length_le (by omega)
  have e2 : l.drop (l.length + 1) = [] := List.drop_of_length_le (by omega)
  have e3 : l.drop l.length = [] := List.drop_length
  exact ⟨by omega, h2, by omega, by rw [h4, e1, e2, e3, List.take_length]⟩
theorem Mw.end_ {l O : List UInt8} {la i : Nat} (h : Mw l O la i) (hi : l.length ≤ i) : unF l = O ++ l.drop la := by
  obtain ⟨h1, h2, h3, h4⟩ := h
  rw [h4, List.take_of_length_le hi, List.drop_of_length_le hi]
  simp [unF]
theorem Mw.len {l O : List UInt8} {la i : Nat} (h : Mw l O la i) : O.length + ((l.take i).drop la).length ≤ l.length := by
  have h4 := congrArg List.length h.2.2.2
  have := unF_len _ l (Nat.le_refl _)
  simp only [List.length_append] at h4
  omega
set_option maxRecDepth 40000 in
set_option maxHeartbeats 16000000 in
theorem writeG_ {U w : World} {r b : Nat} (hT : Tri U r) (hW : Wb U w b []) (s : ByteArray) (hs : s.size ≤ 1099511627776) :
    Calls Tryz.prog 239 #[nP r, .iface 295 (.pointer (some ⟨b, 0, none⟩)), .string s] w fun e w' => ∃ n, e = .returned (.tuple #[.int .i64 n, .nilIface]) ∧ Wb U w' b (unF s.data.toList) := by
  have HZ := hid hs
  have hsl : s.data.toList.length = s.size := rfl
  have HSL := hid hsl
  have H0 := hid (And.intro hT hW)
  have HG := hid (gsw_ b)
  clear hT hW hs hsl
  unfold nP
  go_enter Tryz.func239, Tryz.ntmps239
  go_wp2_with fail
  refine (HG.out _).mono ?_
  rintro e w1 ⟨rfl, e1⟩
  rw [e1]
  clear e1 w1 HG
  go_wp2_with fail
  go_loopw [6, 7, 9, 10, 11, 12] (fun cn er la wn pv iv wr => ∃ (i l0 : Nat) (c1 c2 : Int), iv = .int .i64 i ∧ la = .int .i64 l0 ∧ cn = .int .i64 c1 ∧ wn = .int .i64 c2 ∧ er = .nilIface ∧ pv = .bool false ∧ Hid (∃ O, Wb U wr b O ∧ Mw s.data.toList O l0 i)) (fun _ _ _ _ _ iv _ => s.size + 2 - (intOf iv).toNat)
  case atStart => exact ⟨0, 0, 0, 0, rfl, rfl, rfl, rfl, rfl, rfl, hid ⟨[], H0.out.2, by omega, by omega, by omega, by simp⟩⟩
  case round =>
    obtain ⟨i, l0, c1, c2, rfl, rfl, rfl, rfl, rfl, rfl, HO⟩ := hrel
    obtain ⟨O, hO, hM⟩ := HO.out
    have HM := hid hM
    have HW := hid hO
    have hi3 : i ≤ s.size + 1 := hM.2.2.1
    have hl0i : l0 ≤ i := hM.1
    have hl0s : l0 ≤ s.size := by have := hM.2.1; rw [HSL.out] at this; exact this
    clear hO hM HO
    have hzs := HZ.out
    have hzI : (i : Int) < 1099511627778 := by omega
    obtain ⟨t0, n1, n2, m, k, k2, q2, hG, h1, h2, h3, h4, h5, h6, h7, h8, h9⟩ := tri_touch H0.out.1 HW.out.tt
    have GG := hid hG
    have TT := hid h1
    clear hG h1 h2 h3 h4 h5 h6 h7 h8 h9
    have g1 : wr.cell? ⟨r, 1, none⟩ = some (.int .i64 0) := GG.out.root (j := 1) (by omega)
    have g4 : wr.cell? ⟨r, 4, none⟩ = some (.slice (some ⟨t0, 0, none⟩) 6 6) := GG.out.root (j := 4) (by omega)
    have g5 : wr.cell? ⟨r, 5, none⟩ = some (.int .i64 6) := GG.out.size
    rcases Nat.lt_trichotomy i s.size with hlt | heq | hgt
    · obtain ⟨cn, hcn⟩ : ∃ cn : Nat, (s[i]'hlt).toNat = cn := ⟨_, rfl⟩
      have hc256 : cn < 256 := by rw [← hcn]; exact (s[i]'hlt).toNat_lt
      have HDC : Hid (s.data.toList.drop i = s[i]'hlt :: s.data.toList.drop (i + 1)) := hid (List.drop_eq_getElem_cons (by rw [HSL.out]; exact hlt))
      have hz0 : (i : Int) < (s.size : Int) := by omega
      have hz1 : (i : Int) ≤ (s.size : Int) := by omega
      have hz2 : ((i : Int) != (s.size : Int)) = true := by simp; omega
      by_cases hin : cn ∈ sq
      · have hi6 : cn = 37 ∨ cn = 48 ∨ cn = 50 ∨ cn = 53 ∨ cn = 97 ∨ cn = 100 := by
          simp only [sq, List.mem_cons, List.not_mem_nil, or_false] at hin
          omega
        have HCN := hid hcn
        clear hin hc256
        rcases hi6 with rfl | rfl | rfl | rfl | rfl | rfl
        · have gx : wr.cell? ⟨r, 43, none⟩ = some (.int .u8 0) := by
            have := GG.out.num (b := 37) (by omega)
            rw [show mapB 37 = 0 by decide +kernel] at this
            exact this
          have tx : wr.cell? ⟨t0, 0, none⟩ = some (.pointer (some ⟨n1, 0, none⟩)) := cell_at TT.out (j := 0) rfl
          have eY : (s.extract i s.size).data.toList = s.data.toList.drop i := by
            rw [Lib.extract_data]
            exact List.take_of_length_le (by rw [List.length_drop, HSL.out]; exact Nat.le_refl _)
          have HLK := hid (fun w' (h : Tri w' r) => look_ h (s.extract i s.size) (by rw [ByteArray.size_extract]; have := HZ.out; omega) (Or.inr ⟨s.data.toList.drop (i + 1), by rw [eY, HDC.out, show s[i]'hlt = 37 from u8n HCN.out (by decide)]⟩))
          rw [eY] at HLK
          clear eY
          go_wp2_with fail
          go_quiet (fail)
          obtain ⟨V, hV⟩ : ∃ V, V = wr.drewN nq := ⟨_, rfl⟩
          rw [← hV]
          have WV := hid (show Wb U V b O by rw [hV]; exact HW.out.touch ((Touch.refl [] _).drewN _))
          have y4 : V.cell? ⟨r, 4, none⟩ = some (.slice (some ⟨t0, 0, none⟩) 6 6) := by rw [hV, World.cell?_drewN]; exact g4
          have y5 : V.cell? ⟨r, 5, none⟩ = some (.int .i64 6) := by rw [hV, World.cell?_drewN]; exact g5
          have yx : V.cell? ⟨t0, 0, none⟩ = some (.pointer (some ⟨n1, 0, none⟩)) := by rw [hV, World.cell?_drewN]; exact tx
          clear hV g1 g4 g5 gx tx
          have LV := hid (HLK.out V (tri_touch H0.out.1 WV.out.tt))
          clear HLK
          cases hk : lkL (s.data.toList.drop i) with
          | none =>
            have HN := hid hk
            have r1 : lkS (s.data.toList.drop i) = ⟨#[]⟩ := by unfold lkS; rw [hk]
            have r2 : lkN (s.data.toList.drop i) = 0 := by unfold lkN; rw [hk]
            have r3 : lkB (s.data.toList.drop i) = false := by unfold lkB; rw [hk]
            rw [r1, r2, r3] at LV
            clear r1 r2 r3 hk
            go_wp2_with fail
            refine (LV.out).mono ?_
            rintro e w2 ⟨rfl, hT2⟩
            have HT2 := hid hT2
            clear hT2 LV
            go_wp2_with fail
            go_roundw
            case rel => exact ⟨i + 1, l0, _, _, by go_num, rfl, rfl, rfl, rfl, rfl, hid ⟨O, WV.out.touch HT2.out, HM.out.more (by rw [HSL.out]; exact hlt) HN.out⟩⟩
            case measure => simp [intOf]; omega
          | some x =>
            have HN := hid hk
            have r1 : lkS (s.data.toList.drop i) = ⟨#[x]⟩ := by unfold lkS; rw [hk]
            have r2 : lkN (s.data.toList.drop i) = 3 := by unfold lkN; rw [hk]
            have r3 : lkB (s.data.toList.drop i) = true := by unfold lkB; rw [hk]
            rw [r1, r2, r3] at LV
            clear r1 r2 r3 hk
            have eM : (s.extract l0 i).data.toList = (s.data.toList.take i).drop l0 := by
              rw [Lib.extract_data, List.drop_take]
            have HS1 := hid (fun w' (h : Wb U w' b O) => sw_ h (s.extract l0 i) (by
              have h1 := HM.out.len
              rw [HSL.out] at h1
              have h2 := congrArg List.length eM
              have h3 : (s.extract l0 i).data.toList.length = (s.extract l0 i).size := rfl
              omega))
            have HS2 := hid (fun w' (h : Wb U w' b (O ++ (s.data.toList.take i).drop l0)) => sw_ h ⟨#[x]⟩ (by
              have h1 := HM.out.len
              rw [HSL.out] at h1
              rw [List.length_append]
              have h3 : (⟨#[x]⟩ : ByteArray).size = 1 := rfl
              omega))
            rw [eM] at HS1
            clear eM
            have hi3' : i + 3 ≤ s.size := by have := (HM.out.hit HN.out).2; rw [HSL.out] at this; exact this
            have HMH := hid (HM.out.hit HN.out).1
            go_wp2_with fail
            refine (LV.out).mono ?_
            rintro e w2 ⟨rfl, hT2⟩
            have HW2 := hid (WV.out.touch hT2)
            clear hT2 LV WV y4 y5 yx
            go_wp2_with fail
            have hmk : ∀ (fn : Fn) (first cap : Array Value) (w : World), (Instr.makeFunc fn first cap).run Tryz.prog w = .ok (.func fn first cap) w := fun _ _ _ _ => rfl
            have hnw := nilW b
            have hmw := methW
            go_region_with (go_at_call 252; refine (HS1.out _ ?_).mono ?_; exact HW2.out.touch (Touch.refl [] w2).drew; rintro e w4 ⟨rfl, h4⟩; have HW4 := hid h4; clear h4)
            clear HW2
            go_wp2_with fail
            refine (HS2.out _ HW4.out).mono ?_
            rintro e w5 ⟨rfl, h5⟩
            have HW5 := hid h5
            clear h5 HW4
            go_wp2_with fail
            go_roundw
            case rel => exact ⟨i + 3, i + 3, _, _, by go_num, by go_num, rfl, rfl, rfl, rfl, hid ⟨_, HW5.out, HMH.out⟩⟩
            case measure => simp [intOf]; omega
        · have gx : wr.cell? ⟨r, 54, none⟩ = some (.int .u8 1) := by
            have := GG.out.num (b := 48) (by omega)
            rw [show mapB 48 = 1 by decide +kernel] at this
            exact this
          have tx : wr.cell? ⟨t0, 1, none⟩ = some (.pointer none) := cell_at TT.out (j := 1) rfl
          have HN : Hid (lkL (s.data.toList.drop i) = none) := hid (by rw [HDC.out]; exact lkL_first (fun e => by have := HCN.out; rw [e] at this; revert this; decide))
          go_wp2_with fail
          go_quiet (fail)
          go_wp2_with fail
          go_roundw
          case rel => exact ⟨i + 1, l0, _, _, by go_num, rfl, rfl, rfl, rfl, rfl, hid ⟨O, HW.out.touch ((Touch.refl [] _).drewN _), HM.out.more (by rw [HSL.out]; exact hlt) HN.out⟩⟩
          case measure => simp [intOf]; omega
        · have gx : wr.cell? ⟨r, 56, none⟩ = some (.int .u8 2) := by
            have := GG.out.num (b := 50) (by omega)
            rw [show mapB 50 = 2 by decide +kernel] at this
            exact this
          have tx : wr.cell? ⟨t0, 2, none⟩ = some (.pointer none) := cell_at TT.out (j := 2) rfl
          have HN : Hid (lkL (s.data.toList.drop i) = none) := hid (by rw [HDC.out]; exact lkL_first (fun e => by have := HCN.out; rw [e] at this; revert this; decide))
          go_wp2_with fail
          go_quiet (fail)
          go_wp2_with fail
          go_roundw
          case rel => exact ⟨i + 1, l0, _, _, by go_num, rfl, rfl, rfl, rfl, rfl, hid ⟨O, HW.out.touch ((Touch.refl [] _).drewN _), HM.out.more (by rw [HSL.out]; exact hlt) HN.out⟩⟩
          case measure => simp [intOf]; omega
        · have gx : wr.cell? ⟨r, 59, none⟩ = some (.int .u8 3) := by
            have := GG.out.num (b := 53) (by omega)
            rw [show mapB 53 = 3 by decide +kernel] at this
            exact this
          have tx : wr.cell? ⟨t0, 3, none⟩ = some (.pointer none) := cell_at TT.out (j := 3) rfl
          have HN : Hid (lkL (s.data.toList.drop i) = none) := hid (by rw [HDC.out]; exact lkL_first (fun e => by have := HCN.out; rw [e] at this; revert this; decide))
          go_wp2_with fail
          go_quiet (fail)
          go_wp2_with fail
          go_roundw
          case rel => exact ⟨i + 1, l0, _, _, by go_num, rfl, rfl, rfl, rfl, rfl, hid ⟨O, HW.out.touch ((Touch.refl [] _).drewN _), HM.out.more (by rw [HSL.out]; exact hlt) HN.out⟩⟩
          case measure => simp [intOf]; omega
        · have gx : wr.cell? ⟨r, 103, none⟩ = some (.int .u8 4) := by
            have := GG.out.num (b := 97) (by omega)
            rw [show mapB 97 = 4 by decide +kernel] at this
            exact this
          have tx : wr.cell? ⟨t0, 4, none⟩ = some (.pointer none) := cell_at TT.out (j := 4) rfl
          have HN : Hid (lkL (s.data.toList.drop i) = none) := hid (by rw [HDC.out]; exact lkL_first (fun e => by have := HCN.out; rw [e] at this; revert this; decide))
          go_wp2_with fail
          go_quiet (fail)
          go_wp2_with fail
          go_roundw
          case rel => exact ⟨i + 1, l0, _, _, by go_num, rfl, rfl, rfl, rfl, rfl, hid ⟨O, HW.out.touch ((Touch.refl [] _).drewN _), HM.out.more (by rw [HSL.out]; exact hlt) HN.out⟩⟩
          case measure => simp [intOf]; omega
        · have gx : wr.cell? ⟨r, 106, none⟩ = some (.int .u8 5) := by
            have := GG.out.num (b := 100) (by omega)
            rw [show mapB 100 = 5 by decide +kernel] at this
            exact this
          have tx : wr.cell? ⟨t0, 5, none⟩ = some (.pointer none) := cell_at TT.out (j := 5) rfl
          have HN : Hid (lkL (s.data.toList.drop i) = none) := hid (by rw [HDC.out]; exact lkL_first (fun e => by have := HCN.out; rw [e] at this; revert this; decide))
          go_wp2_with fail
          go_quiet (fail)
          go_wp2_with fail
          go_roundw
          case rel => exact ⟨i + 1, l0, _, _, by go_num, rfl, rfl, rfl, rfl, rfl, hid ⟨O, HW.out.touch ((Touch.refl [] _).drewN _), HM.out.more (by rw [HSL.out]; exact hlt) HN.out⟩⟩
          case measure => simp [intOf]; omega
      · have gx : wr.cell? ⟨r, 6 + cn, none⟩ = some (.int .u8 6) := by
          have := GG.out.num (b := cn) hc256
          rw [mapB_other hin] at this
          exact this
        have hcI : (cn : Int) < 256 := by omega
        have HCN := hid hcn
        have HN : Hid (lkL (s.data.toList.drop i) = none) := hid (by rw [HDC.out]; exact lkL_first (fun e => hin (by rw [← hcn, e]; decide)))
        clear hin hc256 
        go_wp2_with fail
        go_quiet (fail)
        go_wp2_with fail
        go_roundw
        case rel => exact ⟨i + 1, l0, _, _, by go_num, rfl, rfl, rfl, rfl, rfl, hid ⟨O, HW.out.touch ((Touch.refl [] _).drewN _), HM.out.more (by rw [HSL.out]; exact hlt) HN.out⟩⟩
        case measure => simp [intOf]; omega
    · have r1 : lkS [] = ⟨#[]⟩ := rfl
      have r2 : lkN [] = 0 := rfl
      have r3 : lkB [] = false := rfl
      have eY : (s.extract i s.size).data.toList = [] := by
        rw [Lib.extract_data, heq]
        simp
      have HLK := hid (fun w' (h : Tri w' r) => look_ h (s.extract i s.size) (by rw [ByteArray.size_extract]; have := HZ.out; omega) (Or.inl eY))
      rw [eY, r1, r2, r3] at HLK
      clear eY r1 r2 r3
      have HML : Hid (Mw s.data.toList O l0 (i + 1)) := hid (by
        have h1 := HM.out
        have h2 : i = s.data.toList.length := by rw [HSL.out]; exact heq
        rw [h2] at h1 ⊢
        exact h1.last)
      have hz1 : (i : Int) ≤ (s.size : Int) := by omega
      have hz2 : ((i : Int) != (s.size : Int)) = false := by simp; omega
      have hle : i ≤ s.size := by omega
      clear g1 g4 g5 heq
      go_wp2_with fail
      refine (HLK.out _ (tri_touch H0.out.1 HW.out.tt)).mono ?_
      rintro e w2 ⟨rfl, hT2⟩
      have HT2 := hid hT2
      clear hT2 HLK
      go_wp2_with fail
      go_roundw
      case rel => exact ⟨i + 1, l0, _, _, by go_num, rfl, rfl, rfl, rfl, rfl, hid ⟨O, HW.out.touch HT2.out, HML.out⟩⟩
      case measure => simp [intOf]; omega
    · have hz1 : ¬ (i : Int) ≤ (s.size : Int) := by omega
      have hz3 : (l0 : Int) ≤ (s.size : Int) := by omega
      clear g1 g4 g5
      have eM : (s.extract l0 s.size).data.toList = s.data.toList.drop l0 := by
        rw [Lib.extract_data]
        exact List.take_of_length_le (by rw [List.length_drop, HSL.out]; exact Nat.le_refl _)
      have HE := hid (HM.out.end_ (by rw [HSL.out]; omega))
      by_cases hq : l0 = s.size
      · have hz2 : ((l0 : Int) != (s.size : Int)) = false := by simp; omega
        have HF : Hid (unF s.data.toList = O) := hid (by
          rw [HE.out, List.drop_of_length_le (by rw [HSL.out]; omega), List.append_nil])
        go_wp2_with fail
        go_ret2
        exact ⟨⟨_, rfl⟩, HF.out ▸ HW.out⟩
      · have hz2 : ((l0 : Int) != (s.size : Int)) = true := by simp; omega
        have HS1 := hid (fun w' (h : Wb U w' b O) => sw_ h (s.extract l0 s.size) (by
          have h1 := congrArg List.length HE.out
          have h2 := unF_len _ s.data.toList (Nat.le_refl _)
          rw [HSL.out] at h2
          rw [List.length_append] at h1
          have h3 := congrArg List.length eM
          have h4 : (s.extract l0 s.size).data.toList.length = (s.extract l0 s.size).size := rfl
          omega))
        rw [eM] at HS1
        rw [← HE.out] at HS1
        clear eM
        have hmk : ∀ (fn : Fn) (first cap : Array Value) (w : World), (Instr.makeFunc fn first cap).run Tryz.prog w = .ok (.func fn first cap) w := fun _ _ _ _ => rfl
        have hnw := nilW b
        have hmw := methW
        go_wp2_with fail
        go_region_with (go_at_call 252; refine (HS1.out _ ?_).mono ?_; exact HW.out.touch (Touch.refl [] wr).drew; rintro e w4 ⟨rfl, h4⟩; have HW4 := hid h4; clear h4)
        go_wp2_with fail
        go_ret2
        exact ⟨_, rfl, HW4.out⟩
end Go.Proofs.YtlffleigahfdlaaGreatDoor.Tr
