/- The law ClientTexts, walked; the conditions: the table and the library's variables hold what the start lays, the program lies in memory, the text is within the form's reach. -/
import Derived.Test.YthakboiecdjgnaaDoorKtp
import Derived.Test.YthakboiecdjgnaaDoorCnl
namespace Go.Proofs.YthakboiecdjgnaaDoor.Kt
open Go.RowKit Go.Sort Go.Shelf
open Go.Proofs.YthakboiecdjgnaaDoor.Ci
set_option linter.unusedVariables false
theorem tz_size (L : List Dz) (hw : Oks L) : (tz L).1.size ≤ 2000000000 := by
  unfold tz
  split
  · rename_i hc
    have hg := chk_good.1 hc
    unfold textZ
    split
    · exact Nat.zero_le _
    · have h1 := txt_len ln 1000 L (fun x hx => ln_size (hg.2 x hx) (usp_of (hw x hx)))
      have h3 : (ByteArray.mk (txtL ln L).toArray).size = (txtL ln L).length := by simp [ByteArray.size]
      show (ByteArray.mk (txtL ln L).toArray).size ≤ _
      rw [h3]
      have h2 := Nat.mul_le_mul_right 1001 hg.1
      omega
  · exact Nat.zero_le _
theorem tz_ok (L : List Dz) (hw : Oks L) (h : (tz L).2.2 = 0) : prs (tz L).1.data.toList 0 [] = (L, 0, 0) := by
  by_cases hc : (chkZ L).2 = 0
  · have hg := chk_good.1 hc
    have e : tz L = textZ ln L := if_pos hc
    rw [e] at h ⊢
    unfold textZ at h ⊢
    cases hf : L.findIdx? nlB with
    | some i => rw [hf] at h; cases h
    | none =>
      rw [List.findIdx?_eq_none_iff] at hf
      show prs (txtL ln L).toArray.toList 0 [] = _
      rw [show (txtL ln L).toArray.toList = txtL ln L by simp, prs_txt L 0 [] (fun x hx => ⟨hg.2 x hx, usp_of (hw x hx), hf x hx⟩), prs_nil, if_neg (by have := hg.1; omega)]
      simp
  · have e : tz L = (⟨#[]⟩, (chkZ L).1, (chkZ L).2) := if_neg hc
    rw [e] at h
    exact absurd h hc
set_option maxRecDepth 20000 in
set_option maxHeartbeats 4000000 in
theorem texts_ (L : List Dz) (a : Option Addr) (c : Nat) (s : ByteArray) (w : World) (hS : Sy w) (hs : Sl w a L) (hw : Oks L) (hl : L.length ≤ 2932031007317) (hz : s.size ≤ 2000000000) :
    Calls Tryd.prog 3 #[.slice a L.length c, .string s] w fun e w' => e = .returned (.bool true) ∧ Touch [] w w' := by
  have HS := hid hS
  have HL := hid hs
  have HW := hid hw
  have HQ := hid (And.intro hl hz)
  have H7 := hid (fun w' (t : Touch [] w w') => check_ L a c w' (hS.touch t).kd (hs.touch t) hw (by omega))
  have H9 := hid (fun w' (t : Touch [] w w') => ref_ L a c w' (hs.touch t) hl)
  have H8 := hid (fun w' a2 c2 (h : Sl w' a2 L) => rcheck_ L a2 c2 w' h hw)
  have H10 := hid (fun w' (t : Touch [] w w') => ptext10 L a c w' (hS.touch t) (hs.touch t) hw (by omega))
  have H11 := hid (fun w' a2 c2 (h : Sl w' a2 L) => rtext11 L a2 c2 w' h hw)
  have H12 := hid (fun w' (t : Touch [] w w') => parse12 s w' (hS.touch t) hz)
  have H13 := hid (fun w' => parse13 s w' hz)
  have H14 := hid (fun w' (t : Touch [] w w') => awake_ w' (hS.touch t).kd)
  have hpl := prs_len (l := s.data.toList) s.data.toList.length (Nat.le_refl _) 0 [] rfl
  have HR9 := hid (fun w' a2 c2 (h : Sl w' a2 (prs s.data.toList 0 []).1) => ref_ (prs s.data.toList 0 []).1 a2 c2 w' h (by omega))
  have HR15 := hid (fun w' a2 a3 c2 c3 (h : Sl w' a2 (prs s.data.toList 0 []).1) (h' : Sl w' a3 (prs s.data.toList 0 []).1) => same_ (prs s.data.toList 0 []).1 a2 a3 c2 c3 w' h h' (by omega))
  have HT12 := hid (fun w' (t : Touch [] w w') => parse12 (tz L).1 w' (hS.touch t) (tz_size L hw))
  have HT9 := hid (fun w' a2 c2 (h : Sl w' a2 L) => ref_ L a2 c2 w' h hl)
  have HT15 := hid (fun w' a2 a3 c2 c3 (h : Sl w' a2 L) (h' : Sl w' a3 L) => same_ L a2 a3 c2 c3 w' h h' hl)
  have HOK := hid (tz_ok L hw)
  clear hS hs hw hl hz hpl
  generalize (tz L).2.2 = TE at *
  generalize (tz L).2.1 = TI at *
  generalize (tz L).1 = T at *
  generalize (chkZ L).2 = CE at *
  generalize (chkZ L).1 = CI at *
  generalize prs s.data.toList 0 [] = R at *
  obtain ⟨X, RI, RE⟩ := R
  try dsimp only at *
  generalize prs T.data.toList 0 [] = R2 at *
  obtain ⟨X2, RI2, RE2⟩ := R2
  try dsimp only at *
  go_enter Tryd.func3, Tryd.ntmps3
  go_wp2_with fail
  refine (H7.out _ (Touch.refl [] w)).mono ?_
  rintro e w1 ⟨rfl, t1⟩
  have G1 := hid t1
  clear t1
  go_wp2_with fail
  refine (H9.out _ G1.out).mono ?_
  rintro e w2 ⟨a2, c2, rfl, o2, t2⟩
  have S2 := hid (sl_ownT o2)
  have G2 := hid (G1.out.trans' t2)
  clear o2 t2
  go_wp2_with fail
  refine (H8.out _ _ _ S2.out).mono ?_
  rintro e w3 ⟨rfl, t3⟩
  have G3 := hid (G2.out.trans' t3)
  clear t3
  go_wp2_with fail
  refine (H10.out _ G3.out).mono ?_
  rintro e w4 ⟨rfl, t4⟩
  have G4 := hid (G3.out.trans' t4)
  clear t4
  go_wp2_with fail
  refine (H9.out _ G4.out).mono ?_
  rintro e w5 ⟨a5, c5, rfl, o5, t5⟩
  have S5 := hid (sl_ownT o5)
  have G5 := hid (G4.out.trans' t5)
  clear o5 t5
  go_wp2_with fail
  refine (H11.out _ _ _ S5.out).mono ?_
  rintro e w6 ⟨rfl, t6⟩
  have G6 := hid (G5.out.trans' t6)
  clear t6
  go_wp2_with fail
  refine (H12.out _ G6.out).mono ?_
  rintro e w7 ⟨a7, c7, rfl, o7, t7⟩
  have S7 := hid (sl_ownT o7)
  have G7 := hid (G6.out.trans' t7)
  clear o7 t7
  go_wp2_with fail
  refine (H13.out _).mono ?_
  rintro e w8 ⟨a8, c8, rfl, o8, t8⟩
  have S8 := hid (sl_ownT o8)
  have S78 := hid (S7.out.touch t8)
  have G8 := hid (G7.out.trans' t8)
  clear o8 t8
  go_wp2_with fail
  refine (H14.out _ G8.out).mono ?_
  rintro e w9 ⟨rfl, t9⟩
  have S79 := hid (S78.out.touch t9)
  have S89 := hid (S8.out.touch t9)
  have G9 := hid (G8.out.trans' t9)
  clear t9
  go_wp2_with fail
  refine (HR9.out _ _ _ S79.out).mono ?_
  rintro e w10 ⟨a10, c10, rfl, o10, t10⟩
  have S10 := hid (sl_ownT o10)
  have S810 := hid (S89.out.touch t10)
  have G10 := hid (G9.out.trans' t10)
  clear o10 t10
  go_wp2_with fail
  refine (HR15.out _ _ _ _ _ S10.out S810.out).mono ?_
  rintro e w11 ⟨rfl, t11⟩
  have G11 := hid (G10.out.trans' t11)
  clear t11
  go_wp2_with fail
  refine (HT12.out _ G11.out).mono ?_
  rintro e w12 ⟨a12, c12, rfl, o12, t12⟩
  have S12 := hid (sl_ownT o12)
  have G12 := hid (G11.out.trans' t12)
  clear o12 t12
  by_cases hte : TE = 0
  · have hR := HOK.out hte
    obtain ⟨rfl, rfl, rfl⟩ : X2 = L ∧ RI2 = 0 ∧ RE2 = 0 := by
      injection hR with h1 h2
      injection h2 with h2 h3
      exact ⟨h1, h2, h3⟩
    subst hte
    clear hR HOK
    go_wp2_with fail
    refine (HT9.out _ _ _ S12.out).mono ?_
    rintro e w13 ⟨a13, c13, rfl, o13, t13⟩
    have S13 := hid (sl_ownT o13)
    have G13 := hid (G12.out.trans' t13)
    clear o13 t13
    go_wp2_with fail
    refine (H9.out _ G13.out).mono ?_
    rintro e w14 ⟨a14, c14, rfl, o14, t14⟩
    have S14 := hid (sl_ownT o14)
    have S1314 := hid (S13.out.touch t14)
    have G14 := hid (G13.out.trans' t14)
    clear o14 t14
    go_wp2_with fail
    refine (HT15.out _ _ _ _ _ S1314.out S14.out).mono ?_
    rintro e w15 ⟨rfl, t15⟩
    have G15 := hid (G14.out.trans' t15)
    clear t15
    go_wp2_with fail
    go_ret
    exact ⟨rfl, G15.out⟩
  · have hb : (TE != 0) = true := by simpa using hte
    have hb2 : (TE == 0) = false := by simpa using hte
    go_wp2_with fail
    go_ret
    exact ⟨by simp, G12.out⟩
end Go.Proofs.YthakboiecdjgnaaDoor.Kt
