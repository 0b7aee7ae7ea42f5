/- The contract of the document's Read; the text's length is a number of the language's. -/
import Derived.Test.YtpefbmheblfbeaaGreatQt10
import Derived.Test.YtpefbmheblfbeaaGreatQt06
namespace Go.Proofs.YtpefbmheblfbeaaGreat.Sn
open Go.RowKit Go.Sort Go.Shelf Me
set_option linter.unusedVariables false
set_option linter.unusedSimpArgs false
theorem blk9 {W : World} {b t : Nat} {u0 u1 u2 u3 u4 u5 u6 u7 u8 : Value} (h : W.heap[b]? = some (.cells #[u0, u1, u2, u3, u4, u5, u6, u7, u8] t (0, 0))) (v0 v1 v2 v3 v4 v5 v6 v7 v8 : Value) : (((((((((W.setCell ⟨b, 0, none⟩ v0).setCell ⟨b, 1, none⟩ v1).setCell ⟨b, 2, none⟩ v2).setCell ⟨b, 3, none⟩ v3).setCell ⟨b, 4, none⟩ v4).setCell ⟨b, 5, none⟩ v5).setCell ⟨b, 6, none⟩ v6).setCell ⟨b, 7, none⟩ v7).setCell ⟨b, 8, none⟩ v8).heap[b]? = some (.cells #[v0, v1, v2, v3, v4, v5, v6, v7, v8] t (0, 0)) := by
  simp [World.setCell, Array.getElem?_modify, h]
theorem blk97 {W : World} {b t : Nat} {u0 u1 u2 u3 u4 u5 u6 u7 u8 : Value} (h : W.heap[b]? = some (.cells #[u0, u1, u2, u3, u4, u5, u6, u7, u8] t (0, 0))) (v0 v1 v2 v3 v4 v5 v6 : Value) : (((((((W.setCell ⟨b, 0, none⟩ v0).setCell ⟨b, 1, none⟩ v1).setCell ⟨b, 2, none⟩ v2).setCell ⟨b, 3, none⟩ v3).setCell ⟨b, 4, none⟩ v4).setCell ⟨b, 5, none⟩ v5).setCell ⟨b, 6, none⟩ v6).heap[b]? = some (.cells #[v0, v1, v2, v3, v4, v5, v6, u7, u8] t (0, 0)) := by
  simp [World.setCell, Array.getElem?_modify, h]
structure Rb (w W : World) (rB : Nat) (s : ByteArray) (y : Rd) (c : Cf) (now : Int) (v : Value) : Prop where
  t : Touch [] w W
  z : W.heap[w.heap.size]? = some (.cells #[.int .i64 0, .int .i64 0, .int .i64 0, .int .i64 0, .int .i64 0, .int .i64 0, .int .i64 0, .int .i64 0, .slice none 0 0] 32 (0, 0))
  m : W.heap[w.heap.size + 1]? = some (.cells #[.int .i64 c.t, .int .i64 c.n, .int .i64 c.s, .int .i64 c.e, .int .i64 c.f, .int .i64 c.b, .int .i64 c.d, .int .i64 now, v] 32 (0, 0))
  r : W.heap[rB]? = some (.cells #[.string s, .int .i64 y.at_, .int .i64 y.er] 113 (0, 0))
  lt : w.heap.size + 1 < rB
section
variable {w W : World} {rB : Nat} {s : ByteArray} {y : Rd} {c : Cf} {now : Int} {v : Value}
theorem Rb.call (h : Rb w W rB s y c now v) {W' : World} (t : Touch [] W W') : Rb w W' rB s y c now v := ⟨h.t.trans' t, t.keep h.z (by simp), t.keep h.m (by simp), t.keep h.r (by simp), h.lt⟩
theorem Rb.setR (h : Rb w W rB s y c now v) (z : Rd) {E : World} (hE : E = (((W).setCell ⟨rB, 0, none⟩ (.string s)).setCell ⟨rB, 1, none⟩ (.int .i64 z.at_)).setCell ⟨rB, 2, none⟩ (.int .i64 z.er)) : Rb w E rB s z c now v := by
  have l := h.lt
  have t9 : Touch [rB] W E := by rw [hE]; exact ((((Touch.refl [rB] W).setCell (p := ⟨rB, 0, none⟩) (Or.inl (by simp)) (.string s)).setCell (p := ⟨rB, 1, none⟩) (Or.inl (by simp)) (.int .i64 z.at_)).setCell (p := ⟨rB, 2, none⟩) (Or.inl (by simp)) (.int .i64 z.er))
  exact ⟨h.t.trans t9 (fun k hk => by simp at hk; omega), t9.keep h.z (by simp; omega), t9.keep h.m (by simp; omega), by rw [hE]; exact (bset (i := 2) (bset (i := 1) (bset (i := 0) h.r (.string s)) (.int .i64 z.at_)) (.int .i64 z.er)), l⟩
theorem Rb.setC (h : Rb w W rB s y c now v) (d : Cf) {E : World} (hE : E = (((((((W).setCell ⟨w.heap.size + 1, 0, none⟩ (.int .i64 d.t)).setCell ⟨w.heap.size + 1, 1, none⟩ (.int .i64 d.n)).setCell ⟨w.heap.size + 1, 2, none⟩ (.int .i64 d.s)).setCell ⟨w.heap.size + 1, 3, none⟩ (.int .i64 d.e)).setCell ⟨w.heap.size + 1, 4, none⟩ (.int .i64 d.f)).setCell ⟨w.heap.size + 1, 5, none⟩ (.int .i64 d.b)).setCell ⟨w.heap.size + 1, 6, none⟩ (.int .i64 d.d)) : Rb w E rB s y d now v := by
  have l := h.lt
  have t9 : Touch [w.heap.size + 1] W E := by rw [hE]; exact ((((((((Touch.refl [w.heap.size + 1] W).setCell (p := ⟨w.heap.size + 1, 0, none⟩) (Or.inl (by simp)) (.int .i64 d.t)).setCell (p := ⟨w.heap.size + 1, 1, none⟩) (Or.inl (by simp)) (.int .i64 d.n)).setCell (p := ⟨w.heap.size + 1, 2, none⟩) (Or.inl (by simp)) (.int .i64 d.s)).setCell (p := ⟨w.heap.size + 1, 3, none⟩) (Or.inl (by simp)) (.int .i64 d.e)).setCell (p := ⟨w.heap.size + 1, 4, none⟩) (Or.inl (by simp)) (.int .i64 d.f)).setCell (p := ⟨w.heap.size + 1, 5, none⟩) (Or.inl (by simp)) (.int .i64 d.b)).setCell (p := ⟨w.heap.size + 1, 6, none⟩) (Or.inl (by simp)) (.int .i64 d.d))
  exact ⟨h.t.trans t9 (fun k hk => by simp at hk; omega), t9.keep h.z (by simp), by rw [hE]; exact blk97 h.m _ _ _ _ _ _ _, t9.keep h.r (by simp; omega), l⟩
theorem Rb.setN (h : Rb w W rB s y c now v) (n : Int) {E : World} (hE : E = W.setCell ⟨w.heap.size + 1, 7, none⟩ (.int .i64 n)) : Rb w E rB s y c n v := by
  have l := h.lt
  have t9 : Touch [w.heap.size + 1] W E := by rw [hE]; exact (Touch.refl _ W).setCell (Or.inl (by simp)) _
  exact ⟨h.t.trans t9 (fun k hk => by simp at hk; omega), t9.keep h.z (by simp), by rw [hE]; exact bset (i := 7) h.m _, t9.keep h.r (by simp; omega), l⟩
theorem Rb.setV (h : Rb w W rB s y c now v) (u : Value) {E : World} (hE : E = W.setCell ⟨w.heap.size + 1, 8, none⟩ u) : Rb w E rB s y c now u := by
  have l := h.lt
  have t9 : Touch [w.heap.size + 1] W E := by rw [hE]; exact (Touch.refl _ W).setCell (Or.inl (by simp)) _
  exact ⟨h.t.trans t9 (fun k hk => by simp at hk; omega), t9.keep h.z (by simp), by rw [hE]; exact bset (i := 8) h.m _, t9.keep h.r (by simp; omega), l⟩
theorem Rb.grown (h : Rb w W rB s y c now v) {u : Value} {n t k : Nat} {xs : List Value} (o : W.ownsRow (rB + 1) t k u n xs) {w6 : World} (g : W.grownBy w6 u.ownBlock) : Rb w w6 rB s y c now v := by
  have l := h.lt
  have tg : Touch u.ownBlock.toList W w6 := (Touch.refl u.ownBlock.toList W).grown g (fun q hq => Or.inl (by simp [hq]))
  have hn : ∀ j, j ≤ rB → ¬ j ∈ u.ownBlock.toList := fun j hj hm => by have := (o.lt j (Option.mem_toList.1 hm)).1; omega
  exact ⟨touch_grown h.t g o (by omega), tg.keep h.z (hn _ (by omega)), tg.keep h.m (hn _ (by omega)), tg.keep h.r (hn _ (Nat.le_refl _)), l⟩
end
def DrE (e : Ending) (w w' : World) (s : ByteArray) : Prop := Touch [] w w' ∧ (((finR s (rd4 s).1).er ≠ 0 ∧ e = .returned (.tuple #[.agg #[.int .i64 0, .int .i64 0, .int .i64 0, .int .i64 0, .int .i64 0, .int .i64 0, .int .i64 0, .int .i64 0, .slice none 0 0], .int .i64 (finR s (rd4 s).1).at_, .int .i64 (finR s (rd4 s).1).er])) ∨ ((finR s (rd4 s).1).er = 0 ∧ ∃ v, e = .returned (.tuple #[mv (rd2 s).2 (rd3 s).2 v, .int .i64 0, .int .i64 0]) ∧ RN 88 w' v (rd4 s).2))
structure DrI (w wr : World) (rB n : Nat) (s : ByteArray) (c : Cf) (now : Int) (x0 : Rd) (i : Nat) (r : Rd) (L L' : List En) (v : Value) : Prop where
  b : Rb w wr rB s r c now v
  o : wr.ownsRow (rB + 1) 88 7 v L.length (cellsN L)
  sz : rB + 1 ≤ wr.heap.size
  ile : i ≤ n
  l : L.length = i
  e : entsR s c now n x0 [] = entsR s c now (n - i) r L'
  q : r.er = 0 → L = L'
  rin : Rin s r
def DrK (w wx : World) (rB : Nat) (s : ByteArray) (c : Cf) (now : Int) (r : Rd) (L : List En) (v : Value) (b17 b18 : Nat) (y : Rd) (e1 : En) : Prop :=
  Rb w wx rB s r c now v ∧ wx.ownsRow (rB + 1) 88 7 v L.length (cellsN L) ∧ rB + 1 ≤ wx.heap.size ∧ rB < b17 ∧ rB < b18 ∧ wx.heap[b17]? = some (.cells #[.string s, .int .i64 y.at_, .int .i64 y.er] 113 (0, 0)) ∧ wx.heap[b18]? = some (.cells #[.int .u16 e1.1.1, .string e1.1.2, .int .i64 e1.2.1.1, .int .i64 e1.2.1.2.1, .int .i64 e1.2.1.2.2.1, .int .i64 e1.2.1.2.2.2, .int .i64 e1.2.2] 88 (0, 0)) ∧ y = (entR s r c now (keysL L)).1 ∧ (y.er = 0 → e1 = (entR s r c now (keysL L)).2)
theorem DrI.step {w wr w7 : World} {rB n : Nat} {s : ByteArray} {c : Cf} {now : Int} {x0 : Rd} {i : Nat} {r : Rd} {L L' : List En} {v v6 : Value} {y : Rd} {e1 : En} (h : DrI w wr rB n s c now x0 i r L L' v) (hi : i < n) (he : r.er = 0) (hy : y = (entR s r c now (keysL L)).1) (hq : y.er = 0 → e1 = (entR s r c now (keysL L)).2)
    (b : Rb w w7 rB s y c now v6) (o : w7.ownsRow (rB + 1) 88 7 v6 (L.length + 1) (cellsN L ++ nl e1)) (sz : rB + 1 ≤ w7.heap.size) : DrI w w7 rB n s c now x0 (i + 1) y (L ++ [e1]) (L' ++ [(entR s r c now (keysL L')).2]) v6 := by
  have hL := h.q he
  refine ⟨b, by rw [List.length_append, cellsN_app, cellsN_one]; exact o, sz, hi, by rw [List.length_append, h.l]; rfl, ?_, fun z => by rw [hq z, hL], by rw [hy]; exact ((h.rin.key _).num 0 now).out c⟩
  rw [h.e, show n - i = (n - (i + 1)) + 1 by omega, entsR, if_pos he, hy, hL]
theorem DrI.fin {w wr : World} {rB n : Nat} {s : ByteArray} {c : Cf} {now : Int} {x0 : Rd} {i : Nat} {r : Rd} {L L' : List En} {v : Value} (h : DrI w wr rB n s c now x0 i r L L' v) (hx : i = n ∨ r.er ≠ 0) : (entsR s c now n x0 []).1 = r ∧ (r.er = 0 → (entsR s c now n x0 []).2 = L) := by
  have e := h.e
  rcases hx with hx | hx
  · rw [hx, Nat.sub_self] at e
    rw [e]
    exact ⟨rfl, fun z => (h.q z).symm⟩
  · rw [entsR_bad s c now _ r L' hx] at e
    rw [e]
    exact ⟨rfl, fun z => absurd z hx⟩
theorem finR_bad {s : ByteArray} {x : Rd} (h : x.er ≠ 0) : finR s x = x := by unfold finR; rw [if_pos h]
set_option maxRecDepth 20000 in
set_option maxHeartbeats 16000000 in
theorem dread_ (w : World) (s : ByteArray) (hs : s.size ≤ 140737488351232) : Calls Tryz.prog 13 #[.string s] w fun e w' => DrE e w w' s := by
  have HSS := hid hs
  obtain ⟨y0, hy0⟩ : ∃ y0, y0 = rd1 s := ⟨_, rfl⟩
  have HI0 : Hid (Rin s y0) := hid (by rw [hy0]; exact Rin.mark ⟨by simp, by simp⟩ _)
  have HNA := hid (fun w' => dname_ w' s ⟨0, 0⟩ ⟨by simp, by simp⟩ hs ⟨#[99, 111, 110, 118, 111, 121, 48, 49]⟩ rfl)
  rw [show markR s ⟨0, 0⟩ (ByteArray.data ⟨#[99, 111, 110, 118, 111, 121, 48, 49]⟩).toList = y0 from hy0.symm] at HNA
  obtain ⟨m0, hm0⟩ : ∃ m, m = numR s y0 0 9223372036854775807 := ⟨_, rfl⟩
  have HI1 : Hid (Rin s m0.1) := hid (by rw [hm0]; exact HI0.out.num 0 9223372036854775807)
  have HV0 : Hid (0 ≤ m0.2 ∧ m0.2 ≤ 9223372036854775807) := hid (by rw [hm0]; exact numR_v (by omega) (by omega))
  have HN0 := hid (fun w' => dnum_ w' s y0 HI0.out hs 0 9223372036854775807 (by omega) (by omega))
  rw [← hm0] at HN0
  obtain ⟨m1, hm1⟩ : ∃ m, m = numR s m0.1 0 9223372036854775807 := ⟨_, rfl⟩
  have HI2 : Hid (Rin s m1.1) := hid (by rw [hm1]; exact HI1.out.num 0 9223372036854775807)
  have HV1 : Hid (0 ≤ m1.2 ∧ m1.2 ≤ 9223372036854775807) := hid (by rw [hm1]; exact numR_v (by omega) (by omega))
  have HN1 := hid (fun w' => dnum_ w' s m0.1 HI1.out hs 0 9223372036854775807 (by omega) (by omega))
  rw [← hm1] at HN1
  obtain ⟨m2, hm2⟩ : ∃ m, m = numR s m1.1 0 9223372036854775807 := ⟨_, rfl⟩
  have HI3 : Hid (Rin s m2.1) := hid (by rw [hm2]; exact HI2.out.num 0 9223372036854775807)
  have HV2 : Hid (0 ≤ m2.2 ∧ m2.2 ≤ 9223372036854775807) := hid (by rw [hm2]; exact numR_v (by omega) (by omega))
  have HN2 := hid (fun w' => dnum_ w' s m1.1 HI2.out hs 0 9223372036854775807 (by omega) (by omega))
  rw [← hm2] at HN2
  obtain ⟨m3, hm3⟩ : ∃ m, m = numR s m2.1 0 65536 := ⟨_, rfl⟩
  have HI4 : Hid (Rin s m3.1) := hid (by rw [hm3]; exact HI3.out.num 0 65536)
  have HV3 : Hid (0 ≤ m3.2 ∧ m3.2 ≤ 65536) := hid (by rw [hm3]; exact numR_v (by omega) (by omega))
  have HN3 := hid (fun w' => dnum_ w' s m2.1 HI3.out hs 0 65536 (by omega) (by omega))
  rw [← hm3] at HN3
  obtain ⟨m4, hm4⟩ : ∃ m, m = numR s m3.1 1 4096 := ⟨_, rfl⟩
  have HI5 : Hid (Rin s m4.1) := hid (by rw [hm4]; exact HI4.out.num 1 4096)
  have HV4 : Hid (0 ≤ m4.2 ∧ m4.2 ≤ 4096) := hid (by rw [hm4]; exact numR_v (by omega) (by omega))
  have HN4 := hid (fun w' => dnum_ w' s m3.1 HI4.out hs 1 4096 (by omega) (by omega))
  rw [← hm4] at HN4
  obtain ⟨m5, hm5⟩ : ∃ m, m = numR s m4.1 1 1024 := ⟨_, rfl⟩
  have HI6 : Hid (Rin s m5.1) := hid (by rw [hm5]; exact HI5.out.num 1 1024)
  have HV5 : Hid (0 ≤ m5.2 ∧ m5.2 ≤ 1024) := hid (by rw [hm5]; exact numR_v (by omega) (by omega))
  have HN5 := hid (fun w' => dnum_ w' s m4.1 HI5.out hs 1 1024 (by omega) (by omega))
  rw [← hm5] at HN5
  obtain ⟨m6, hm6⟩ : ∃ m, m = numR s m5.1 0 9223372036854775807 := ⟨_, rfl⟩
  have HI7 : Hid (Rin s m6.1) := hid (by rw [hm6]; exact HI6.out.num 0 9223372036854775807)
  have HV6 : Hid (0 ≤ m6.2 ∧ m6.2 ≤ 9223372036854775807) := hid (by rw [hm6]; exact numR_v (by omega) (by omega))
  have HN6 := hid (fun w' => dnum_ w' s m5.1 HI6.out hs 0 9223372036854775807 (by omega) (by omega))
  rw [← hm6] at HN6
  obtain ⟨m7, hm7⟩ : ∃ m, m = numR s m6.1 0 4611686018427387904 := ⟨_, rfl⟩
  have HI8 : Hid (Rin s m7.1) := hid (by rw [hm7]; exact HI7.out.num 0 4611686018427387904)
  have HV7 : Hid (0 ≤ m7.2 ∧ m7.2 ≤ 4611686018427387904) := hid (by rw [hm7]; exact numR_v (by omega) (by omega))
  have HN7 := hid (fun w' => dnum_ w' s m6.1 HI7.out hs 0 4611686018427387904 (by omega) (by omega))
  rw [← hm7] at HN7
  obtain ⟨m8, hm8⟩ : ∃ m, m = numR s m7.1 0 m3.2 := ⟨_, rfl⟩
  have HI9 : Hid (Rin s m8.1) := hid (by rw [hm8]; exact HI8.out.num 0 m3.2)
  have HV8 : Hid (0 ≤ m8.2 ∧ m8.2 ≤ m3.2) := hid (by rw [hm8]; exact numR_v (by omega) HV3.out.1)
  have HN8 := hid (fun w' => dnum_ w' s m7.1 HI8.out hs 0 m3.2 (by omega) HV3.out.1)
  rw [← hm8] at HN8
  obtain ⟨cc, hcc⟩ : ∃ cc : Cf, cc = ⟨m0.2, m1.2, m2.2, m3.2, m4.2, m5.2, m6.2⟩ := ⟨_, rfl⟩
  have HR2 : Hid (rd2 s = (m6.1, cc)) := hid (by rw [hcc]; unfold rd2; rw [← hy0]; unfold cfgR; simp only [← hm0, ← hm1, ← hm2, ← hm3, ← hm4, ← hm5, ← hm6])
  have HR3 : Hid (rd3 s = m7) := hid (by unfold rd3; rw [HR2.out, hm7])
  have HR3N : Hid ((rd3 s).2 = m7.2) := hid (by rw [HR3.out])
  obtain ⟨n, hn⟩ : ∃ n : Nat, n = m8.2.toNat := ⟨_, rfl⟩
  have HNZ : Hid (m8.2 = (n : Int) ∧ n ≤ 65536) := hid (by have := HV8.out; have := HV3.out; omega)
  have HR4 : Hid (rd4 s = entsR s cc m7.2 n m8.1 []) := hid (by unfold rd4; rw [HR3.out, HR2.out, hn, hm8, hcc])
  have HCE : Hid (m3.2 = cc.e ∧ 0 ≤ cc.t ∧ 0 ≤ cc.n) := hid (by rw [hcc]; exact ⟨rfl, HV0.out.1, HV1.out.1⟩)
  have HCC := hid hcc
  clear hy0 hm0 hm1 hm2 hm3 hm4 hm5 hm6 hm7 hm8 hn hcc hs
  unfold rv at *
  go_enter Tryz.func13, Tryz.ntmps13
  go_upto_region 2 with fail
  obtain ⟨V, hV⟩ : ∃ V, V = (w.alloc (.cells #[.int .i64 0, .int .i64 0, .int .i64 0, .int .i64 0, .int .i64 0, .int .i64 0, .int .i64 0, .int .i64 0, .slice none 0 0] 32)).alloc (.cells #[.int .i64 0, .int .i64 0, .int .i64 0, .int .i64 0, .int .i64 0, .int .i64 0, .int .i64 0, .int .i64 0, .slice none 0 0] 32) := ⟨_, rfl⟩
  have tV : Touch [] w V := by rw [hV]; exact ((Touch.refl _ _).alloc _).alloc _
  have hz : V.heap[w.heap.size]? = some (.cells #[.int .i64 0, .int .i64 0, .int .i64 0, .int .i64 0, .int .i64 0, .int .i64 0, .int .i64 0, .int .i64 0, .slice none 0 0] 32 (0, 0)) := by rw [hV]; exact ((Touch.refl [] _).alloc _).keep (heap_alloc_new w _) (by simp)
  have hm : V.heap[w.heap.size + 1]? = some (.cells #[.int .i64 0, .int .i64 0, .int .i64 0, .int .i64 0, .int .i64 0, .int .i64 0, .int .i64 0, .int .i64 0, .slice none 0 0] 32 (0, 0)) := by rw [hV]; have z := heap_alloc_new (w.alloc (.cells #[.int .i64 0, .int .i64 0, .int .i64 0, .int .i64 0, .int .i64 0, .int .i64 0, .int .i64 0, .int .i64 0, .slice none 0 0] 32)) (.cells #[.int .i64 0, .int .i64 0, .int .i64 0, .int .i64 0, .int .i64 0, .int .i64 0, .int .i64 0, .int .i64 0, .slice none 0 0] 32); rw [World.size_alloc] at z; exact z
  have hvs : V.heap.size = w.heap.size + 2 := by rw [hV]; simp
  rw [← hV]
  clear hV
  go_upto_region 3 with (go_at_call 49; refine (HNA.out _).mono ?_; rintro e w1 ⟨rfl, t1⟩)
  obtain ⟨rB, hrB⟩ : ∃ rB, rB = w1.heap.size := ⟨_, rfl⟩
  obtain ⟨W0, hW0⟩ : ∃ W0, W0 = w1.alloc (.cells #[.string s, .int .i64 y0.at_, .int .i64 y0.er] 113) := ⟨_, rfl⟩
  have t0 : Touch [] w1 W0 := by rw [hW0]; exact (Touch.refl _ _).alloc _
  have HT0 : Hid (Rb w W0 rB s y0 ⟨0, 0, 0, 0, 0, 0, 0⟩ 0 (.slice none 0 0)) := hid ⟨(tV.trans' t1).trans' t0, (t1.trans' t0).keep hz (by simp), (t1.trans' t0).keep hm (by simp), by rw [hW0, hrB]; exact heap_alloc_new w1 _, by have := t1.size; omega⟩
  have HSZ0 : Hid (rB + 1 ≤ W0.heap.size) := hid (by rw [hW0, hrB]; simp)
  rw [← hW0, ← hrB]
  clear hW0 hrB t0 t1 tV hz hm hvs HNA
  have x0 := cell_of (n := 0) HT0.out.r rfl
  have x1 := cell_of (n := 1) HT0.out.r rfl
  have x2 := cell_of (n := 2) HT0.out.r rfl
  go_upto_region 4 with (go_at_call 50; refine (HN0.out _).mono ?_; rintro e w5 ⟨rfl, t5⟩; have HTa := hid (HT0.out.call t5); have z0 := cell_of (n := 0) HTa.out.r rfl; have z1 := cell_of (n := 1) HTa.out.r rfl; have z2 := cell_of (n := 2) HTa.out.r rfl; have f0 := froz_at HTa.out.r 0; have f1 := froz_at HTa.out.r 1; have f2 := froz_at HTa.out.r 2; clear x0 x1 x2)
  obtain ⟨W1, hW1⟩ : ∃ W1, W1 = (((w5).setCell ⟨rB, 0, none⟩ (.string s)).setCell ⟨rB, 1, none⟩ (.int .i64 m0.1.at_)).setCell ⟨rB, 2, none⟩ (.int .i64 m0.1.er) := ⟨_, rfl⟩
  have HT1 := hid (HTa.out.setR m0.1 hW1)
  have HSZ1 : Hid (rB + 1 ≤ W1.heap.size) := hid (by have := block_lt HT1.out.r; omega)
  rw [← hW1]
  clear hW1 HTa HT0 HN0 HSZ0 z0 z1 z2 f0 f1 f2 t5
  have x0 := cell_of (n := 0) HT1.out.r rfl
  have x1 := cell_of (n := 1) HT1.out.r rfl
  have x2 := cell_of (n := 2) HT1.out.r rfl
  go_upto_region 5 with (go_at_call 50; refine (HN1.out _).mono ?_; rintro e w5 ⟨rfl, t5⟩; have HTa := hid (HT1.out.call t5); have z0 := cell_of (n := 0) HTa.out.r rfl; have z1 := cell_of (n := 1) HTa.out.r rfl; have z2 := cell_of (n := 2) HTa.out.r rfl; have f0 := froz_at HTa.out.r 0; have f1 := froz_at HTa.out.r 1; have f2 := froz_at HTa.out.r 2; clear x0 x1 x2)
  obtain ⟨W2, hW2⟩ : ∃ W2, W2 = (((w5).setCell ⟨rB, 0, none⟩ (.string s)).setCell ⟨rB, 1, none⟩ (.int .i64 m1.1.at_)).setCell ⟨rB, 2, none⟩ (.int .i64 m1.1.er) := ⟨_, rfl⟩
  have HT2 := hid (HTa.out.setR m1.1 hW2)
  have HSZ2 : Hid (rB + 1 ≤ W2.heap.size) := hid (by have := block_lt HT2.out.r; omega)
  rw [← hW2]
  clear hW2 HTa HT1 HN1 HSZ1 z0 z1 z2 f0 f1 f2 t5
  have x0 := cell_of (n := 0) HT2.out.r rfl
  have x1 := cell_of (n := 1) HT2.out.r rfl
  have x2 := cell_of (n := 2) HT2.out.r rfl
  go_upto_region 6 with (go_at_call 50; refine (HN2.out _).mono ?_; rintro e w5 ⟨rfl, t5⟩; have HTa := hid (HT2.out.call t5); have z0 := cell_of (n := 0) HTa.out.r rfl; have z1 := cell_of (n := 1) HTa.out.r rfl; have z2 := cell_of (n := 2) HTa.out.r rfl; have f0 := froz_at HTa.out.r 0; have f1 := froz_at HTa.out.r 1; have f2 := froz_at HTa.out.r 2; clear x0 x1 x2)
  obtain ⟨W3, hW3⟩ : ∃ W3, W3 = (((w5).setCell ⟨rB, 0, none⟩ (.string s)).setCell ⟨rB, 1, none⟩ (.int .i64 m2.1.at_)).setCell ⟨rB, 2, none⟩ (.int .i64 m2.1.er) := ⟨_, rfl⟩
  have HT3 := hid (HTa.out.setR m2.1 hW3)
  have HSZ3 : Hid (rB + 1 ≤ W3.heap.size) := hid (by have := block_lt HT3.out.r; omega)
  rw [← hW3]
  clear hW3 HTa HT2 HN2 HSZ2 z0 z1 z2 f0 f1 f2 t5
  have x0 := cell_of (n := 0) HT3.out.r rfl
  have x1 := cell_of (n := 1) HT3.out.r rfl
  have x2 := cell_of (n := 2) HT3.out.r rfl
  go_upto_region 7 with (go_at_call 50; refine (HN3.out _).mono ?_; rintro e w5 ⟨rfl, t5⟩; have HTa := hid (HT3.out.call t5); have z0 := cell_of (n := 0) HTa.out.r rfl; have z1 := cell_of (n := 1) HTa.out.r rfl; have z2 := cell_of (n := 2) HTa.out.r rfl; have f0 := froz_at HTa.out.r 0; have f1 := froz_at HTa.out.r 1; have f2 := froz_at HTa.out.r 2; clear x0 x1 x2)
  obtain ⟨W4, hW4⟩ : ∃ W4, W4 = (((w5).setCell ⟨rB, 0, none⟩ (.string s)).setCell ⟨rB, 1, none⟩ (.int .i64 m3.1.at_)).setCell ⟨rB, 2, none⟩ (.int .i64 m3.1.er) := ⟨_, rfl⟩
  have HT4 := hid (HTa.out.setR m3.1 hW4)
  have HSZ4 : Hid (rB + 1 ≤ W4.heap.size) := hid (by have := block_lt HT4.out.r; omega)
  rw [← hW4]
  clear hW4 HTa HT3 HN3 HSZ3 z0 z1 z2 f0 f1 f2 t5
  have x0 := cell_of (n := 0) HT4.out.r rfl
  have x1 := cell_of (n := 1) HT4.out.r rfl
  have x2 := cell_of (n := 2) HT4.out.r rfl
  go_upto_region 8 with (go_at_call 50; refine (HN4.out _).mono ?_; rintro e w5 ⟨rfl, t5⟩; have HTa := hid (HT4.out.call t5); have z0 := cell_of (n := 0) HTa.out.r rfl; have z1 := cell_of (n := 1) HTa.out.r rfl; have z2 := cell_of (n := 2) HTa.out.r rfl; have f0 := froz_at HTa.out.r 0; have f1 := froz_at HTa.out.r 1; have f2 := froz_at HTa.out.r 2; clear x0 x1 x2)
  obtain ⟨W5, hW5⟩ : ∃ W5, W5 = (((w5).setCell ⟨rB, 0, none⟩ (.string s)).setCell ⟨rB, 1, none⟩ (.int .i64 m4.1.at_)).setCell ⟨rB, 2, none⟩ (.int .i64 m4.1.er) := ⟨_, rfl⟩
  have HT5 := hid (HTa.out.setR m4.1 hW5)
  have HSZ5 : Hid (rB + 1 ≤ W5.heap.size) := hid (by have := block_lt HT5.out.r; omega)
  rw [← hW5]
  clear hW5 HTa HT4 HN4 HSZ4 z0 z1 z2 f0 f1 f2 t5
  have x0 := cell_of (n := 0) HT5.out.r rfl
  have x1 := cell_of (n := 1) HT5.out.r rfl
  have x2 := cell_of (n := 2) HT5.out.r rfl
  go_upto_region 9 with (go_at_call 50; refine (HN5.out _).mono ?_; rintro e w5 ⟨rfl, t5⟩; have HTa := hid (HT5.out.call t5); have z0 := cell_of (n := 0) HTa.out.r rfl; have z1 := cell_of (n := 1) HTa.out.r rfl; have z2 := cell_of (n := 2) HTa.out.r rfl; have f0 := froz_at HTa.out.r 0; have f1 := froz_at HTa.out.r 1; have f2 := froz_at HTa.out.r 2; clear x0 x1 x2)
  obtain ⟨W6, hW6⟩ : ∃ W6, W6 = (((w5).setCell ⟨rB, 0, none⟩ (.string s)).setCell ⟨rB, 1, none⟩ (.int .i64 m5.1.at_)).setCell ⟨rB, 2, none⟩ (.int .i64 m5.1.er) := ⟨_, rfl⟩
  have HT6 := hid (HTa.out.setR m5.1 hW6)
  have HSZ6 : Hid (rB + 1 ≤ W6.heap.size) := hid (by have := block_lt HT6.out.r; omega)
  rw [← hW6]
  clear hW6 HTa HT5 HN5 HSZ5 z0 z1 z2 f0 f1 f2 t5
  have x0 := cell_of (n := 0) HT6.out.r rfl
  have x1 := cell_of (n := 1) HT6.out.r rfl
  have x2 := cell_of (n := 2) HT6.out.r rfl
  go_upto_region 10 with (go_at_call 50; refine (HN6.out _).mono ?_; rintro e w5 ⟨rfl, t5⟩; have HTa := hid (HT6.out.call t5); have z0 := cell_of (n := 0) HTa.out.r rfl; have z1 := cell_of (n := 1) HTa.out.r rfl; have z2 := cell_of (n := 2) HTa.out.r rfl; have f0 := froz_at HTa.out.r 0; have f1 := froz_at HTa.out.r 1; have f2 := froz_at HTa.out.r 2; clear x0 x1 x2)
  obtain ⟨W7, hW7⟩ : ∃ W7, W7 = (((w5).setCell ⟨rB, 0, none⟩ (.string s)).setCell ⟨rB, 1, none⟩ (.int .i64 m6.1.at_)).setCell ⟨rB, 2, none⟩ (.int .i64 m6.1.er) := ⟨_, rfl⟩
  have HT7 := hid (HTa.out.setR m6.1 hW7)
  have HSZ7 : Hid (rB + 1 ≤ W7.heap.size) := hid (by have := block_lt HT7.out.r; omega)
  rw [← hW7]
  clear hW7 HTa HT6 HN6 HSZ6 z0 z1 z2 f0 f1 f2 t5
  have x0 := cell_of (n := 0) HT7.out.r rfl
  have x1 := cell_of (n := 1) HT7.out.r rfl
  have x2 := cell_of (n := 2) HT7.out.r rfl
  go_upto_region 11 with (go_at_call 50; refine (HN7.out _).mono ?_; rintro e w5 ⟨rfl, t5⟩; have HTa := hid (HT7.out.call t5); have z0 := cell_of (n := 0) HTa.out.r rfl; have z1 := cell_of (n := 1) HTa.out.r rfl; have z2 := cell_of (n := 2) HTa.out.r rfl; have f0 := froz_at HTa.out.r 0; have f1 := froz_at HTa.out.r 1; have f2 := froz_at HTa.out.r 2; clear x0 x1 x2)
  obtain ⟨W8, hW8⟩ : ∃ W8, W8 = (((w5).setCell ⟨rB, 0, none⟩ (.string s)).setCell ⟨rB, 1, none⟩ (.int .i64 m7.1.at_)).setCell ⟨rB, 2, none⟩ (.int .i64 m7.1.er) := ⟨_, rfl⟩
  have HT8 := hid (HTa.out.setR m7.1 hW8)
  have HSZ8 : Hid (rB + 1 ≤ W8.heap.size) := hid (by have := block_lt HT8.out.r; omega)
  rw [← hW8]
  clear hW8 HTa HT7 HN7 HSZ7 z0 z1 z2 f0 f1 f2 t5
  have x0 := cell_of (n := 0) HT8.out.r rfl
  have x1 := cell_of (n := 1) HT8.out.r rfl
  have x2 := cell_of (n := 2) HT8.out.r rfl
  go_upto_region 12 with (go_at_call 50; refine (HN8.out _).mono ?_; rintro e w5 ⟨rfl, t5⟩; have HTa := hid (HT8.out.call t5); have z0 := cell_of (n := 0) HTa.out.r rfl; have z1 := cell_of (n := 1) HTa.out.r rfl; have z2 := cell_of (n := 2) HTa.out.r rfl; have f0 := froz_at HTa.out.r 0; have f1 := froz_at HTa.out.r 1; have f2 := froz_at HTa.out.r 2; clear x0 x1 x2)
  obtain ⟨W9, hW9⟩ : ∃ W9, W9 = (((w5).setCell ⟨rB, 0, none⟩ (.string s)).setCell ⟨rB, 1, none⟩ (.int .i64 m8.1.at_)).setCell ⟨rB, 2, none⟩ (.int .i64 m8.1.er) := ⟨_, rfl⟩
  have HT9 := hid (HTa.out.setR m8.1 hW9)
  have HSZ9 : Hid (rB + 1 ≤ W9.heap.size) := hid (by have := block_lt HT9.out.r; omega)
  rw [← hW9]
  clear hW9 HTa HT8 HN8 HSZ8 z0 z1 z2 f0 f1 f2 t5
  have wt0 : IntKind.i64.wrap m0.2 = m0.2 := by have := HV0.out; rw [IntKind.wrap_i64]; omega
  have wt1 : IntKind.i64.wrap m1.2 = m1.2 := by have := HV1.out; rw [IntKind.wrap_i64]; omega
  have wt2 : IntKind.i64.wrap m2.2 = m2.2 := by have := HV2.out; rw [IntKind.wrap_i64]; omega
  have wt3 : IntKind.i64.wrap m3.2 = m3.2 := by have := HV3.out; rw [IntKind.wrap_i64]; omega
  have wt4 : IntKind.i64.wrap m4.2 = m4.2 := by have := HV4.out; rw [IntKind.wrap_i64]; omega
  have wt5 : IntKind.i64.wrap m5.2 = m5.2 := by have := HV5.out; rw [IntKind.wrap_i64]; omega
  have wt6 : IntKind.i64.wrap m6.2 = m6.2 := by have := HV6.out; rw [IntKind.wrap_i64]; omega
  have wt7 : IntKind.i64.wrap m7.2 = m7.2 := by have := HV7.out; rw [IntKind.wrap_i64]; omega
  have q0 := cell_of (n := 0) HT9.out.m rfl
  have q1 := cell_of (n := 1) HT9.out.m rfl
  have q2 := cell_of (n := 2) HT9.out.m rfl
  have q3 := cell_of (n := 3) HT9.out.m rfl
  have q4 := cell_of (n := 4) HT9.out.m rfl
  have q5 := cell_of (n := 5) HT9.out.m rfl
  have q6 := cell_of (n := 6) HT9.out.m rfl
  have q7 := cell_of (n := 7) HT9.out.m rfl
  have qf := froz_at HT9.out.m
  go_upto_region 14 with fail
  obtain ⟨Wa, hWa⟩ : ∃ Wa, Wa = (((((((W9).setCell ⟨w.heap.size + 1, 0, none⟩ (.int .i64 m0.2)).setCell ⟨w.heap.size + 1, 1, none⟩ (.int .i64 m1.2)).setCell ⟨w.heap.size + 1, 2, none⟩ (.int .i64 m2.2)).setCell ⟨w.heap.size + 1, 3, none⟩ (.int .i64 m3.2)).setCell ⟨w.heap.size + 1, 4, none⟩ (.int .i64 m4.2)).setCell ⟨w.heap.size + 1, 5, none⟩ (.int .i64 m5.2)).setCell ⟨w.heap.size + 1, 6, none⟩ (.int .i64 m6.2) := ⟨_, rfl⟩
  have HTa := hid (HT9.out.setC ⟨m0.2, m1.2, m2.2, m3.2, m4.2, m5.2, m6.2⟩ hWa)
  rw [← HCC.out] at HTa
  rw [← hWa]
  obtain ⟨Wb, hWb⟩ : ∃ Wb, Wb = Wa.setCell ⟨w.heap.size + 1, 7, none⟩ (.int .i64 m7.2) := ⟨_, rfl⟩
  have HTb := hid (HTa.out.setN m7.2 hWb)
  rw [← hWb]
  clear hWa hWb HTa HT9 q0 q1 q2 q3 q4 q5 q6 q7 qf wt0 wt1 wt2 wt3 wt4 wt5 wt6 wt7
  have HBEG : Hid (DrI w Wb rB n s cc m7.2 m8.1 0 m8.1 [] [] (.slice none 0 0)) := hid ⟨HTb.out, ⟨by simp [cellsN], Or.inl ⟨rfl, rfl⟩⟩, by have := block_lt HTb.out.r; omega, Nat.zero_le _, rfl, rfl, fun _ => rfl, HI9.out⟩
  have HMN : Hid (0 ≤ m7.2 ∧ m7.2 ≤ 9223372036854775807) := hid (by have := HV7.out; omega)
  rw [HNZ.out.1]
  have HNN := hid HNZ.out.2
  generalize m7.2 = now at *
  generalize m8.1 = x0 at *
  clear HTb HSZ9 HNZ HI0 HI1 HI2 HI3 HI4 HI5 HI6 HI7 HI8 HI9 HV0 HV1 HV2 HV3 HV4 HV5 HV6 HV7 HV8
  go_wp2
  go_loopw [16] (fun si wr => ∃ (i : Nat) (r : Rd) (L L' : List En) (v : Value), si = .int .u64 (i : Nat) ∧ i ≤ n ∧ Hid (DrI w wr rB n s cc now x0 i r L L' v)) (fun si _ => n - (intOf si).toNat)
  case atStart => exact ⟨0, x0, [], [], _, rfl, Nat.zero_le _, HBEG⟩
  case round =>
    clear HBEG
    obtain ⟨i, r, L, L', v, rfl, hin, HG⟩ := hrel
    obtain ⟨wo, hwo⟩ : ∃ wo, wo = wr := ⟨_, rfl⟩
    rw [← hwo] at HG ⊢
    clear hwo wr
    have hnn := HNN.out
    have r2 := cell_of (n := 2) HG.out.b.r rfl
    by_cases hlt : i < n
    · have hz : (i : Int) < (n : Int) := by omega
      by_cases he : r.er = 0
      · rw [he] at r2
        obtain ⟨a, cp, ev⟩ := own_form HG.out.o
        subst ev
        have HEK := hid (And.intro hlt he)
        clear he
        have HLL : Hid (L.length ≤ 70000) := hid (by have := HG.out.l; omega)
        have HKS := hid (fun w' (t : Touch [] wo w') => dkeys_ (w := w') (xs := L) ((RN.own HG.out.o).keep t) HLL.out)
        have HEN := hid (fun w' A B u (hA : A.length ≤ 70000) (hv : World.ownsRow w' B 83 2 u A.length (kcs A)) => dent_ HG.out.rin HSS.out hA hv cc ⟨HCE.out.2.1, HCE.out.2.2⟩ now HMN.out)
        unfold rv cv at HEN
        obtain ⟨y, hy⟩ : ∃ y, y = (entR s r cc now (keysL L)).1 := ⟨_, rfl⟩
        have HY := hid hy
        clear hy
        go_upto_region 17 with fail
        clear r2
        go_cut [17, 18] from 98 to 109 (fun s17 s18 wx => ∃ (b17 b18 : Nat) (e1 : En), s17 = .pointer (some ⟨b17, 0, none⟩) ∧ s18 = .pointer (some ⟨b18, 0, none⟩) ∧ Hid (DrK w wx rB s cc now r L (.slice a L.length cp) b17 b18 y e1))
        case first =>
          have HRB := hid (fun w' (t : Touch [] wo w') => HG.out.b.call t)
          have R0 : ∀ w' : World, Touch [] wo w' → w'.cell? ⟨rB, 0, none⟩ = some (.string s) := fun w' h => cell_of (n := 0) (HRB.out w' h).r rfl
          have R1 : ∀ w' : World, Touch [] wo w' → w'.cell? ⟨rB, 1, none⟩ = some (.int .i64 r.at_) := fun w' h => cell_of (n := 1) (HRB.out w' h).r rfl
          have R2 : ∀ w' : World, Touch [] wo w' → w'.cell? ⟨rB, 2, none⟩ = some (.int .i64 r.er) := fun w' h => cell_of (n := 2) (HRB.out w' h).r rfl
          have M0 : ∀ w' : World, Touch [] wo w' → w'.cell? ⟨w.heap.size + 1, 0, none⟩ = some (.int .i64 cc.t) := fun w' h => cell_of (n := 0) (HRB.out w' h).m rfl
          have M1 : ∀ w' : World, Touch [] wo w' → w'.cell? ⟨w.heap.size + 1, 1, none⟩ = some (.int .i64 cc.n) := fun w' h => cell_of (n := 1) (HRB.out w' h).m rfl
          have M2 : ∀ w' : World, Touch [] wo w' → w'.cell? ⟨w.heap.size + 1, 2, none⟩ = some (.int .i64 cc.s) := fun w' h => cell_of (n := 2) (HRB.out w' h).m rfl
          have M3 : ∀ w' : World, Touch [] wo w' → w'.cell? ⟨w.heap.size + 1, 3, none⟩ = some (.int .i64 cc.e) := fun w' h => cell_of (n := 3) (HRB.out w' h).m rfl
          have M4 : ∀ w' : World, Touch [] wo w' → w'.cell? ⟨w.heap.size + 1, 4, none⟩ = some (.int .i64 cc.f) := fun w' h => cell_of (n := 4) (HRB.out w' h).m rfl
          have M5 : ∀ w' : World, Touch [] wo w' → w'.cell? ⟨w.heap.size + 1, 5, none⟩ = some (.int .i64 cc.b) := fun w' h => cell_of (n := 5) (HRB.out w' h).m rfl
          have M6 : ∀ w' : World, Touch [] wo w' → w'.cell? ⟨w.heap.size + 1, 6, none⟩ = some (.int .i64 cc.d) := fun w' h => cell_of (n := 6) (HRB.out w' h).m rfl
          have M7 : ∀ w' : World, Touch [] wo w' → w'.cell? ⟨w.heap.size + 1, 7, none⟩ = some (.int .i64 now) := fun w' h => cell_of (n := 7) (HRB.out w' h).m rfl
          have M8 : ∀ w' : World, Touch [] wo w' → w'.cell? ⟨w.heap.size + 1, 8, none⟩ = some (.slice a L.length cp) := fun w' h => cell_of (n := 8) (HRB.out w' h).m rfl
          have s0 : Touch [] wo wo.drew := (Touch.refl _ _).drew
          refine wp_region_H (S := fun w' => Touch [] wo w') (by kernel_rfl) ?_
          generalize wo.drew = V0 at *
          refine wpH_take (i := 0) (v := (.agg #[.string s, .int .i64 r.at_, .int .i64 r.er])) (some 99) rfl rfl (by kernel_rfl) (by kernel_rfl) (by kernel_rfl) (fun _ _ _ h => h) (Or.inl ⟨by rfl, fun w' hS => (by have z0 := R0 _ hS; have z1 := R1 _ hS; have z2 := R2 _ hS; go_simp)⟩) s0 ?_
          try simp only [Go.Act.put, List.setIfInBounds_toArray, List.set_cons_zero, List.set_cons_succ]
          refine wpH_take (i := 1) (v := (.pointer (some ⟨w.heap.size + 1, 0, none⟩))) (some 100) rfl rfl (by kernel_rfl) (by kernel_rfl) (by kernel_rfl) (fun _ _ _ h => h) (Or.inl ⟨by rfl, fun w' hS => (by go_simp)⟩) s0 ?_
          try simp only [Go.Act.put, List.setIfInBounds_toArray, List.set_cons_zero, List.set_cons_succ]
          refine wpH_take (i := 2) (v := (.agg #[.int .i64 cc.t, .int .i64 cc.n, .int .i64 cc.s, .int .i64 cc.e, .int .i64 cc.f, .int .i64 cc.b, .int .i64 cc.d])) (some 101) rfl rfl (by kernel_rfl) (by kernel_rfl) (by kernel_rfl) (fun _ _ _ h => h) (Or.inl ⟨by rfl, fun w' hS => (by have z0 := M0 _ hS; have z1 := M1 _ hS; have z2 := M2 _ hS; have z3 := M3 _ hS; have z4 := M4 _ hS; have z5 := M5 _ hS; have z6 := M6 _ hS; go_simp)⟩) s0 ?_
          try simp only [Go.Act.put, List.setIfInBounds_toArray, List.set_cons_zero, List.set_cons_succ]
          refine wpH_take (i := 3) (v := (.pointer (some ⟨w.heap.size + 1, 7, none⟩))) (some 102) rfl rfl (by kernel_rfl) (by kernel_rfl) (by kernel_rfl) (fun _ _ _ h => h) (Or.inl ⟨by rfl, fun w' hS => (by go_simp)⟩) s0 ?_
          try simp only [Go.Act.put, List.setIfInBounds_toArray, List.set_cons_zero, List.set_cons_succ]
          refine wpH_take (i := 4) (v := (.int .i64 now)) (some 103) rfl rfl (by kernel_rfl) (by kernel_rfl) (by kernel_rfl) (fun _ _ _ h => h) (Or.inl ⟨by rfl, fun w' hS => (by have z0 := M7 _ hS; go_simp)⟩) s0 ?_
          try simp only [Go.Act.put, List.setIfInBounds_toArray, List.set_cons_zero, List.set_cons_succ]
          refine wpH_take (i := 5) (v := (.pointer (some ⟨w.heap.size + 1, 8, none⟩))) (some 104) rfl rfl (by kernel_rfl) (by kernel_rfl) (by kernel_rfl) (fun _ _ _ h => h) (Or.inl ⟨by rfl, fun w' hS => (by go_simp)⟩) s0 ?_
          try simp only [Go.Act.put, List.setIfInBounds_toArray, List.set_cons_zero, List.set_cons_succ]
          refine wpH_take (i := 6) (v := (.slice a L.length cp)) (some 105) rfl rfl (by kernel_rfl) (by kernel_rfl) (by kernel_rfl) (fun _ _ _ h => h) (Or.inl ⟨by rfl, fun w' hS => (by have z0 := M8 _ hS; go_simp)⟩) s0 ?_
          try simp only [Go.Act.put, List.setIfInBounds_toArray, List.set_cons_zero, List.set_cons_succ]
          refine wpH_ready (rs := [7, 12, 13]) (by kernel_rfl) (by simp) ?_
          refine AllH.cons (o := { dst := some 106, op := Op.call { callee := Callee.value (Operand.func 52), args := #[Operand.tmp 105], argTypes := #[30] }, type := 119, pos := _, after := #[{ on := 6, ground := Ground.data }], guard := none }) rfl (fun K' hK => ?_) ?_
          · rw [if_pos (by rfl)]
            go_simp
            refine (HKS.out _ s0).mono ?_
            rintro e u7 ⟨ks, rfl, ok, tk⟩
            obtain ⟨ka, kc, ek⟩ := own_form ok
            subst ek
            have s1 := s0.trans' tk
            refine hK.out _ _ s1 ?_
            clear hK
            try simp only [Go.Act.put, List.setIfInBounds_toArray, List.set_cons_zero, List.set_cons_succ]
            refine wpH_ready (rs := [8, 12, 13]) (by kernel_rfl) (by simp) ?_
            refine AllH.cons (o := { dst := some 107, op := Op.call { callee := Callee.value (Operand.func 51), args := #[Operand.tmp 99, Operand.tmp 101, Operand.tmp 103, Operand.tmp 106], argTypes := #[113, 29, 2, 119] }, type := 117, pos := _, after := #[{ on := 0, ground := Ground.data }, { on := 2, ground := Ground.data }, { on := 4, ground := Ground.data }, { on := 7, ground := Ground.data }, { on := 7, ground := Ground.chain }], guard := none }) rfl (fun K' hK => ?_) ?_
            · rw [if_pos (by rfl)]
              go_simp
              refine (HEN.out _ (keysL L) _ _ (by have := HLL.out; simpa [keysL] using this) (own_touch ok (Touch.refl [] u7) (fun _ _ e => by cases e))).mono ?_
              rintro e u8 ⟨e1, he1, hq1, te⟩
              rw [← HY.out] at he1 hq1
              unfold rv nv at he1
              subst he1
              have s2 := s1.trans' te
              refine hK.out _ _ s2 ?_
              clear hK
              try simp only [Go.Act.put, List.setIfInBounds_toArray, List.set_cons_zero, List.set_cons_succ]
              refine wpH_take (i := 9) (v := (.tuple #[(.agg #[.string s, .int .i64 y.at_, .int .i64 y.er]), (.agg #[.int .u16 e1.1.1, .string e1.1.2, .int .i64 e1.2.1.1, .int .i64 e1.2.1.2.1, .int .i64 e1.2.1.2.2.1, .int .i64 e1.2.1.2.2.2, .int .i64 e1.2.2])])) (some 98) rfl rfl (by kernel_rfl) (by kernel_rfl) (by kernel_rfl) (fun _ _ _ h => h) (Or.inl ⟨by rfl, fun w' hS => (by go_simp)⟩) s2 ?_
              try simp only [Go.Act.put, List.setIfInBounds_toArray, List.set_cons_zero, List.set_cons_succ]
              refine wpH_take (i := 10) (v := (.agg #[.string s, .int .i64 y.at_, .int .i64 y.er])) (some 108) rfl rfl (by kernel_rfl) (by kernel_rfl) (by kernel_rfl) (fun _ _ _ h => h) (Or.inl ⟨by rfl, fun w' hS => (by go_simp)⟩) s2 ?_
              try simp only [Go.Act.put, List.setIfInBounds_toArray, List.set_cons_zero, List.set_cons_succ]
              refine wpH_take (i := 11) (v := (.agg #[.int .u16 e1.1.1, .string e1.1.2, .int .i64 e1.2.1.1, .int .i64 e1.2.1.2.1, .int .i64 e1.2.1.2.2.1, .int .i64 e1.2.1.2.2.2, .int .i64 e1.2.2])) (some 109) rfl rfl (by kernel_rfl) (by kernel_rfl) (by kernel_rfl) (fun _ _ _ h => h) (Or.inl ⟨by rfl, fun w' hS => (by go_simp)⟩) s2 ?_
              try simp only [Go.Act.put, List.setIfInBounds_toArray, List.set_cons_zero, List.set_cons_succ]
              refine wpH_ready (rs := [12, 13]) (by kernel_rfl) (by simp) ?_
              refine AllH.cons (o := { dst := some 17, op := Op.alloc 113, type := 0, pos := _, after := #[], guard := none }) rfl (fun K' hK => ?_) ?_
              · rw [if_pos (by rfl)]
                go_simp
                refine hK.out _ _ (s2.alloc _) ?_
                clear hK
                try simp only [Go.Act.put, List.setIfInBounds_toArray, List.set_cons_zero, List.set_cons_succ]
                obtain ⟨E17, hE17⟩ : ∃ E17, E17 = u8.alloc (.cells #[.string ⟨#[]⟩, .int .i64 0, .int .i64 0] 113) := ⟨_, rfl⟩
                have te17 : Touch [] u8 E17 := by rw [hE17]; exact (Touch.refl _ _).alloc _
                have a17 : E17.heap[u8.heap.size]? = some (.cells #[.string ⟨#[]⟩, .int .i64 0, .int .i64 0] 113 (0, 0)) := by rw [hE17]; exact heap_alloc_new u8 _
                rw [← hE17]
                clear hE17
                obtain ⟨b17, hb17⟩ : ∃ b17, b17 = u8.heap.size := ⟨_, rfl⟩
                rw [← hb17] at a17 ⊢
                have s3 := s2.trans' te17
                have l17 : rB < b17 ∧ wo.heap.size ≤ b17 := by have := s2.size; have := HG.out.sz; omega
                clear hb17
                refine wpH_call (i := 13) (o := { dst := some 18, op := Op.alloc 88, type := 0, pos := _, after := #[], guard := none }) (by kernel_rfl) rfl (fun K' hK => ?_)
                rw [if_pos (by rfl)]
                go_simp
                refine hK.out _ _ (s3.alloc _) ?_
                clear hK
                try simp only [Go.Act.put, List.setIfInBounds_toArray, List.set_cons_zero, List.set_cons_succ]
                obtain ⟨E18, hE18⟩ : ∃ E18, E18 = E17.alloc (.cells #[.int .u16 0, .string ⟨#[]⟩, .int .i64 0, .int .i64 0, .int .i64 0, .int .i64 0, .int .i64 0] 88) := ⟨_, rfl⟩
                have te18 : Touch [] E17 E18 := by rw [hE18]; exact (Touch.refl _ _).alloc _
                have a18 : E18.heap[E17.heap.size]? = some (.cells #[.int .u16 0, .string ⟨#[]⟩, .int .i64 0, .int .i64 0, .int .i64 0, .int .i64 0, .int .i64 0] 88 (0, 0)) := by rw [hE18]; exact heap_alloc_new E17 _
                rw [← hE18]
                clear hE18
                obtain ⟨b18, hb18⟩ : ∃ b18, b18 = E17.heap.size := ⟨_, rfl⟩
                rw [← hb18] at a18 ⊢
                have s4 := s3.trans' te18
                have l18 : rB < b18 ∧ wo.heap.size ≤ b18 := by have := s3.size; have := HG.out.sz; omega
                have n78 : b17 ≠ b18 := by have := block_lt a17; have := (Touch.refl [] E17).size; omega
                clear hb18
                refine wpH_call (i := 14) (o := { dst := none, op := Op.store 113 (Operand.tmp 17) (Operand.tmp 108), type := 0, pos := _, after := #[{ on := 12, ground := Ground.data }, { on := 10, ground := Ground.data }, { on := 8, ground := Ground.chain }, { on := 0, ground := Ground.phase }, { on := 1, ground := Ground.phase }, { on := 2, ground := Ground.phase }, { on := 3, ground := Ground.phase }, { on := 4, ground := Ground.phase }, { on := 5, ground := Ground.phase }, { on := 6, ground := Ground.phase }, { on := 7, ground := Ground.phase }, { on := 8, ground := Ground.phase }, { on := 9, ground := Ground.phase }, { on := 10, ground := Ground.phase }, { on := 11, ground := Ground.textOnly Departure.lateStores }, { on := 12, ground := Ground.phase }, { on := 13, ground := Ground.phase }], guard := none }) (by kernel_rfl) rfl (fun K' hK => ?_)
                rw [if_pos (by rfl)]
                have g17 := ((Touch.refl [] E17).trans' te18).keep a17 (by simp)
                have m0 := cell_of (n := 0) g17 rfl
                have m1 := cell_of (n := 1) g17 rfl
                have m2 := cell_of (n := 2) g17 rfl
                have f0 := froz_at g17 0
                have f1 := froz_at g17 1
                have f2 := froz_at g17 2
                go_simp
                clear m0 m1 m2 f0 f1 f2
                obtain ⟨F1, hF1⟩ : ∃ F1, F1 = (((E18).setCell ⟨b17, 0, none⟩ (.string s)).setCell ⟨b17, 1, none⟩ (.int .i64 y.at_)).setCell ⟨b17, 2, none⟩ (.int .i64 y.er) := ⟨_, rfl⟩
                rw [← hF1]
                have tF1 : Touch [b17] E18 F1 := by rw [hF1]; exact ((((Touch.refl [b17] E18).setCell (p := ⟨b17, 0, none⟩) (Or.inl (by simp)) (.string s)).setCell (p := ⟨b17, 1, none⟩) (Or.inl (by simp)) (.int .i64 y.at_)).setCell (p := ⟨b17, 2, none⟩) (Or.inl (by simp)) (.int .i64 y.er))
                have h17 : F1.heap[b17]? = some (.cells #[.string s, .int .i64 y.at_, .int .i64 y.er] 113 (0, 0)) := by rw [hF1]; exact (bset (i := 2) (bset (i := 1) (bset (i := 0) g17 (.string s)) (.int .i64 y.at_)) (.int .i64 y.er))
                have g18 := tF1.keep ((Touch.refl [] E18).keep a18 (by simp)) (by simpa using n78.symm)
                clear hF1
                have s5 := s4.trans tF1 (fun k hk => by simp at hk; exact Or.inr (by rw [hk]; exact l17.2))
                refine hK.out _ _ s5 ?_
                clear hK
                try simp only [Go.Act.put, List.setIfInBounds_toArray, List.set_cons_zero, List.set_cons_succ]
                refine wpH_call (i := 15) (o := { dst := none, op := Op.store 88 (Operand.tmp 18) (Operand.tmp 109), type := 0, pos := _, after := #[{ on := 13, ground := Ground.data }, { on := 11, ground := Ground.data }, { on := 14, ground := Ground.chain }, { on := 0, ground := Ground.phase }, { on := 1, ground := Ground.phase }, { on := 2, ground := Ground.phase }, { on := 3, ground := Ground.phase }, { on := 4, ground := Ground.phase }, { on := 5, ground := Ground.phase }, { on := 6, ground := Ground.phase }, { on := 7, ground := Ground.phase }, { on := 8, ground := Ground.phase }, { on := 9, ground := Ground.phase }, { on := 10, ground := Ground.phase }, { on := 11, ground := Ground.phase }, { on := 12, ground := Ground.phase }, { on := 13, ground := Ground.phase }, { on := 14, ground := Ground.phase }], guard := none }) (by kernel_rfl) rfl (fun K' hK => ?_)
                rw [if_pos (by rfl)]
                have m0 := cell_of (n := 0) g18 rfl
                have m1 := cell_of (n := 1) g18 rfl
                have m2 := cell_of (n := 2) g18 rfl
                have m3 := cell_of (n := 3) g18 rfl
                have m4 := cell_of (n := 4) g18 rfl
                have m5 := cell_of (n := 5) g18 rfl
                have m6 := cell_of (n := 6) g18 rfl
                have f0 := froz_at g18 0
                have f1 := froz_at g18 1
                have f2 := froz_at g18 2
                have f3 := froz_at g18 3
                have f4 := froz_at g18 4
                have f5 := froz_at g18 5
                have f6 := froz_at g18 6
                go_simp
                clear m0 m1 m2 m3 m4 m5 m6 f0 f1 f2 f3 f4 f5 f6
                obtain ⟨F2, hF2⟩ : ∃ F2, F2 = (((((((F1).setCell ⟨b18, 0, none⟩ (.int .u16 e1.1.1)).setCell ⟨b18, 1, none⟩ (.string e1.1.2)).setCell ⟨b18, 2, none⟩ (.int .i64 e1.2.1.1)).setCell ⟨b18, 3, none⟩ (.int .i64 e1.2.1.2.1)).setCell ⟨b18, 4, none⟩ (.int .i64 e1.2.1.2.2.1)).setCell ⟨b18, 5, none⟩ (.int .i64 e1.2.1.2.2.2)).setCell ⟨b18, 6, none⟩ (.int .i64 e1.2.2) := ⟨_, rfl⟩
                rw [← hF2]
                have tF2 : Touch [b18] F1 F2 := by rw [hF2]; exact ((((((((Touch.refl [b18] F1).setCell (p := ⟨b18, 0, none⟩) (Or.inl (by simp)) (.int .u16 e1.1.1)).setCell (p := ⟨b18, 1, none⟩) (Or.inl (by simp)) (.string e1.1.2)).setCell (p := ⟨b18, 2, none⟩) (Or.inl (by simp)) (.int .i64 e1.2.1.1)).setCell (p := ⟨b18, 3, none⟩) (Or.inl (by simp)) (.int .i64 e1.2.1.2.1)).setCell (p := ⟨b18, 4, none⟩) (Or.inl (by simp)) (.int .i64 e1.2.1.2.2.1)).setCell (p := ⟨b18, 5, none⟩) (Or.inl (by simp)) (.int .i64 e1.2.1.2.2.2)).setCell (p := ⟨b18, 6, none⟩) (Or.inl (by simp)) (.int .i64 e1.2.2))
                have h18 : F2.heap[b18]? = some (.cells #[.int .u16 e1.1.1, .string e1.1.2, .int .i64 e1.2.1.1, .int .i64 e1.2.1.2.1, .int .i64 e1.2.1.2.2.1, .int .i64 e1.2.1.2.2.2, .int .i64 e1.2.2] 88 (0, 0)) := by rw [hF2]; exact (bset (i := 6) (bset (i := 5) (bset (i := 4) (bset (i := 3) (bset (i := 2) (bset (i := 1) (bset (i := 0) g18 (.int .u16 e1.1.1)) (.string e1.1.2)) (.int .i64 e1.2.1.1)) (.int .i64 e1.2.1.2.1)) (.int .i64 e1.2.1.2.2.1)) (.int .i64 e1.2.1.2.2.2)) (.int .i64 e1.2.2))
                have h17' := tF2.keep h17 (by simpa using n78)
                clear hF2
                have s6 := s5.trans tF2 (fun k hk => by simp at hk; exact Or.inr (by rw [hk]; exact l18.2))
                refine hK.out _ _ s6 ?_
                clear hK
                try simp only [Go.Act.put, List.setIfInBounds_toArray, List.set_cons_zero, List.set_cons_succ]
                refine wpAnyH_done (by kernel_rfl) ?_ _
                go_wp2_with fail
                go_meet
                case rel => exact ⟨b17, b18, e1, rfl, rfl, hid ⟨HG.out.b.call s6, own_touch HG.out.o s6 (fun _ _ e => by cases e), by have := s6.size; have := HG.out.sz; omega, l17.1, l18.1, h17', h18, HY.out, hq1⟩⟩
              refine AllH.cons (o := { dst := some 18, op := Op.alloc 88, type := 0, pos := _, after := #[], guard := none }) rfl (fun K' hK => ?_) ?_
              · rw [if_pos (by rfl)]
                go_simp
                refine hK.out _ _ (s2.alloc _) ?_
                clear hK
                try simp only [Go.Act.put, List.setIfInBounds_toArray, List.set_cons_zero, List.set_cons_succ]
                obtain ⟨E18, hE18⟩ : ∃ E18, E18 = u8.alloc (.cells #[.int .u16 0, .string ⟨#[]⟩, .int .i64 0, .int .i64 0, .int .i64 0, .int .i64 0, .int .i64 0] 88) := ⟨_, rfl⟩
                have te18 : Touch [] u8 E18 := by rw [hE18]; exact (Touch.refl _ _).alloc _
                have a18 : E18.heap[u8.heap.size]? = some (.cells #[.int .u16 0, .string ⟨#[]⟩, .int .i64 0, .int .i64 0, .int .i64 0, .int .i64 0, .int .i64 0] 88 (0, 0)) := by rw [hE18]; exact heap_alloc_new u8 _
                rw [← hE18]
                clear hE18
                obtain ⟨b18, hb18⟩ : ∃ b18, b18 = u8.heap.size := ⟨_, rfl⟩
                rw [← hb18] at a18 ⊢
                have s7 := s2.trans' te18
                have l18 : rB < b18 ∧ wo.heap.size ≤ b18 := by have := s2.size; have := HG.out.sz; omega
                clear hb18
                refine wpH_call (i := 12) (o := { dst := some 17, op := Op.alloc 113, type := 0, pos := _, after := #[], guard := none }) (by kernel_rfl) rfl (fun K' hK => ?_)
                rw [if_pos (by rfl)]
                go_simp
                refine hK.out _ _ (s7.alloc _) ?_
                clear hK
                try simp only [Go.Act.put, List.setIfInBounds_toArray, List.set_cons_zero, List.set_cons_succ]
                obtain ⟨E17, hE17⟩ : ∃ E17, E17 = E18.alloc (.cells #[.string ⟨#[]⟩, .int .i64 0, .int .i64 0] 113) := ⟨_, rfl⟩
                have te17 : Touch [] E18 E17 := by rw [hE17]; exact (Touch.refl _ _).alloc _
                have a17 : E17.heap[E18.heap.size]? = some (.cells #[.string ⟨#[]⟩, .int .i64 0, .int .i64 0] 113 (0, 0)) := by rw [hE17]; exact heap_alloc_new E18 _
                rw [← hE17]
                clear hE17
                obtain ⟨b17, hb17⟩ : ∃ b17, b17 = E18.heap.size := ⟨_, rfl⟩
                rw [← hb17] at a17 ⊢
                have s8 := s7.trans' te17
                have l17 : rB < b17 ∧ wo.heap.size ≤ b17 := by have := s7.size; have := HG.out.sz; omega
                have n78 : b17 ≠ b18 := by have := block_lt a18; have := (Touch.refl [] E18).size; omega
                clear hb17
                refine wpH_call (i := 14) (o := { dst := none, op := Op.store 113 (Operand.tmp 17) (Operand.tmp 108), type := 0, pos := _, after := #[{ on := 12, ground := Ground.data }, { on := 10, ground := Ground.data }, { on := 8, ground := Ground.chain }, { on := 0, ground := Ground.phase }, { on := 1, ground := Ground.phase }, { on := 2, ground := Ground.phase }, { on := 3, ground := Ground.phase }, { on := 4, ground := Ground.phase }, { on := 5, ground := Ground.phase }, { on := 6, ground := Ground.phase }, { on := 7, ground := Ground.phase }, { on := 8, ground := Ground.phase }, { on := 9, ground := Ground.phase }, { on := 10, ground := Ground.phase }, { on := 11, ground := Ground.textOnly Departure.lateStores }, { on := 12, ground := Ground.phase }, { on := 13, ground := Ground.phase }], guard := none }) (by kernel_rfl) rfl (fun K' hK => ?_)
                rw [if_pos (by rfl)]
                have g17 := (Touch.refl [] E17).keep a17 (by simp)
                have m0 := cell_of (n := 0) g17 rfl
                have m1 := cell_of (n := 1) g17 rfl
                have m2 := cell_of (n := 2) g17 rfl
                have f0 := froz_at g17 0
                have f1 := froz_at g17 1
                have f2 := froz_at g17 2
                go_simp
                clear m0 m1 m2 f0 f1 f2
                obtain ⟨F1, hF1⟩ : ∃ F1, F1 = (((E17).setCell ⟨b17, 0, none⟩ (.string s)).setCell ⟨b17, 1, none⟩ (.int .i64 y.at_)).setCell ⟨b17, 2, none⟩ (.int .i64 y.er) := ⟨_, rfl⟩
                rw [← hF1]
                have tF1 : Touch [b17] E17 F1 := by rw [hF1]; exact ((((Touch.refl [b17] E17).setCell (p := ⟨b17, 0, none⟩) (Or.inl (by simp)) (.string s)).setCell (p := ⟨b17, 1, none⟩) (Or.inl (by simp)) (.int .i64 y.at_)).setCell (p := ⟨b17, 2, none⟩) (Or.inl (by simp)) (.int .i64 y.er))
                have h17 : F1.heap[b17]? = some (.cells #[.string s, .int .i64 y.at_, .int .i64 y.er] 113 (0, 0)) := by rw [hF1]; exact (bset (i := 2) (bset (i := 1) (bset (i := 0) g17 (.string s)) (.int .i64 y.at_)) (.int .i64 y.er))
                have g18 := tF1.keep (((Touch.refl [] E18).trans' te17).keep a18 (by simp)) (by simpa using n78.symm)
                clear hF1
                have s9 := s8.trans tF1 (fun k hk => by simp at hk; exact Or.inr (by rw [hk]; exact l17.2))
                refine hK.out _ _ s9 ?_
                clear hK
                try simp only [Go.Act.put, List.setIfInBounds_toArray, List.set_cons_zero, List.set_cons_succ]
                refine wpH_call (i := 15) (o := { dst := none, op := Op.store 88 (Operand.tmp 18) (Operand.tmp 109), type := 0, pos := _, after := #[{ on := 13, ground := Ground.data }, { on := 11, ground := Ground.data }, { on := 14, ground := Ground.chain }, { on := 0, ground := Ground.phase }, { on := 1, ground := Ground.phase }, { on := 2, ground := Ground.phase }, { on := 3, ground := Ground.phase }, { on := 4, ground := Ground.phase }, { on := 5, ground := Ground.phase }, { on := 6, ground := Ground.phase }, { on := 7, ground := Ground.phase }, { on := 8, ground := Ground.phase }, { on := 9, ground := Ground.phase }, { on := 10, ground := Ground.phase }, { on := 11, ground := Ground.phase }, { on := 12, ground := Ground.phase }, { on := 13, ground := Ground.phase }, { on := 14, ground := Ground.phase }], guard := none }) (by kernel_rfl) rfl (fun K' hK => ?_)
                rw [if_pos (by rfl)]
                have m0 := cell_of (n := 0) g18 rfl
                have m1 := cell_of (n := 1) g18 rfl
                have m2 := cell_of (n := 2) g18 rfl
                have m3 := cell_of (n := 3) g18 rfl
                have m4 := cell_of (n := 4) g18 rfl
                have m5 := cell_of (n := 5) g18 rfl
                have m6 := cell_of (n := 6) g18 rfl
                have f0 := froz_at g18 0
                have f1 := froz_at g18 1
                have f2 := froz_at g18 2
                have f3 := froz_at g18 3
                have f4 := froz_at g18 4
                have f5 := froz_at g18 5
                have f6 := froz_at g18 6
                go_simp
                clear m0 m1 m2 m3 m4 m5 m6 f0 f1 f2 f3 f4 f5 f6
                obtain ⟨F2, hF2⟩ : ∃ F2, F2 = (((((((F1).setCell ⟨b18, 0, none⟩ (.int .u16 e1.1.1)).setCell ⟨b18, 1, none⟩ (.string e1.1.2)).setCell ⟨b18, 2, none⟩ (.int .i64 e1.2.1.1)).setCell ⟨b18, 3, none⟩ (.int .i64 e1.2.1.2.1)).setCell ⟨b18, 4, none⟩ (.int .i64 e1.2.1.2.2.1)).setCell ⟨b18, 5, none⟩ (.int .i64 e1.2.1.2.2.2)).setCell ⟨b18, 6, none⟩ (.int .i64 e1.2.2) := ⟨_, rfl⟩
                rw [← hF2]
                have tF2 : Touch [b18] F1 F2 := by rw [hF2]; exact ((((((((Touch.refl [b18] F1).setCell (p := ⟨b18, 0, none⟩) (Or.inl (by simp)) (.int .u16 e1.1.1)).setCell (p := ⟨b18, 1, none⟩) (Or.inl (by simp)) (.string e1.1.2)).setCell (p := ⟨b18, 2, none⟩) (Or.inl (by simp)) (.int .i64 e1.2.1.1)).setCell (p := ⟨b18, 3, none⟩) (Or.inl (by simp)) (.int .i64 e1.2.1.2.1)).setCell (p := ⟨b18, 4, none⟩) (Or.inl (by simp)) (.int .i64 e1.2.1.2.2.1)).setCell (p := ⟨b18, 5, none⟩) (Or.inl (by simp)) (.int .i64 e1.2.1.2.2.2)).setCell (p := ⟨b18, 6, none⟩) (Or.inl (by simp)) (.int .i64 e1.2.2))
                have h18 : F2.heap[b18]? = some (.cells #[.int .u16 e1.1.1, .string e1.1.2, .int .i64 e1.2.1.1, .int .i64 e1.2.1.2.1, .int .i64 e1.2.1.2.2.1, .int .i64 e1.2.1.2.2.2, .int .i64 e1.2.2] 88 (0, 0)) := by rw [hF2]; exact (bset (i := 6) (bset (i := 5) (bset (i := 4) (bset (i := 3) (bset (i := 2) (bset (i := 1) (bset (i := 0) g18 (.int .u16 e1.1.1)) (.string e1.1.2)) (.int .i64 e1.2.1.1)) (.int .i64 e1.2.1.2.1)) (.int .i64 e1.2.1.2.2.1)) (.int .i64 e1.2.1.2.2.2)) (.int .i64 e1.2.2))
                have h17' := tF2.keep h17 (by simpa using n78)
                clear hF2
                have s10 := s9.trans tF2 (fun k hk => by simp at hk; exact Or.inr (by rw [hk]; exact l18.2))
                refine hK.out _ _ s10 ?_
                clear hK
                try simp only [Go.Act.put, List.setIfInBounds_toArray, List.set_cons_zero, List.set_cons_succ]
                refine wpAnyH_done (by kernel_rfl) ?_ _
                go_wp2_with fail
                go_meet
                case rel => exact ⟨b17, b18, e1, rfl, rfl, hid ⟨HG.out.b.call s10, own_touch HG.out.o s10 (fun _ _ e => by cases e), by have := s10.size; have := HG.out.sz; omega, l17.1, l18.1, h17', h18, HY.out, hq1⟩⟩
              exact AllH.nil
            refine AllH.cons (o := { dst := some 17, op := Op.alloc 113, type := 0, pos := _, after := #[], guard := none }) rfl (fun K' hK => ?_) ?_
            · rw [if_pos (by rfl)]
              go_simp
              refine hK.out _ _ (s1.alloc _) ?_
              clear hK
              try simp only [Go.Act.put, List.setIfInBounds_toArray, List.set_cons_zero, List.set_cons_succ]
              obtain ⟨E17, hE17⟩ : ∃ E17, E17 = u7.alloc (.cells #[.string ⟨#[]⟩, .int .i64 0, .int .i64 0] 113) := ⟨_, rfl⟩
              have te17 : Touch [] u7 E17 := by rw [hE17]; exact (Touch.refl _ _).alloc _
              have a17 : E17.heap[u7.heap.size]? = some (.cells #[.string ⟨#[]⟩, .int .i64 0, .int .i64 0] 113 (0, 0)) := by rw [hE17]; exact heap_alloc_new u7 _
              rw [← hE17]
              clear hE17
              obtain ⟨b17, hb17⟩ : ∃ b17, b17 = u7.heap.size := ⟨_, rfl⟩
              rw [← hb17] at a17 ⊢
              have s11 := s1.trans' te17
              have l17 : rB < b17 ∧ wo.heap.size ≤ b17 := by have := s1.size; have := HG.out.sz; omega
              clear hb17
              refine wpH_ready (rs := [8, 13]) (by kernel_rfl) (by simp) ?_
              refine AllH.cons (o := { dst := some 107, op := Op.call { callee := Callee.value (Operand.func 51), args := #[Operand.tmp 99, Operand.tmp 101, Operand.tmp 103, Operand.tmp 106], argTypes := #[113, 29, 2, 119] }, type := 117, pos := _, after := #[{ on := 0, ground := Ground.data }, { on := 2, ground := Ground.data }, { on := 4, ground := Ground.data }, { on := 7, ground := Ground.data }, { on := 7, ground := Ground.chain }], guard := none }) rfl (fun K' hK => ?_) ?_
              · rw [if_pos (by rfl)]
                go_simp
                refine (HEN.out _ (keysL L) _ _ (by have := HLL.out; simpa [keysL] using this) (own_touch ok ((Touch.refl [] u7).trans' te17) (fun _ _ e => by cases e))).mono ?_
                rintro e u8 ⟨e1, he1, hq1, te⟩
                rw [← HY.out] at he1 hq1
                unfold rv nv at he1
                subst he1
                have s12 := s11.trans' te
                refine hK.out _ _ s12 ?_
                clear hK
                try simp only [Go.Act.put, List.setIfInBounds_toArray, List.set_cons_zero, List.set_cons_succ]
                refine wpH_take (i := 9) (v := (.tuple #[(.agg #[.string s, .int .i64 y.at_, .int .i64 y.er]), (.agg #[.int .u16 e1.1.1, .string e1.1.2, .int .i64 e1.2.1.1, .int .i64 e1.2.1.2.1, .int .i64 e1.2.1.2.2.1, .int .i64 e1.2.1.2.2.2, .int .i64 e1.2.2])])) (some 98) rfl rfl (by kernel_rfl) (by kernel_rfl) (by kernel_rfl) (fun _ _ _ h => h) (Or.inl ⟨by rfl, fun w' hS => (by go_simp)⟩) s12 ?_
                try simp only [Go.Act.put, List.setIfInBounds_toArray, List.set_cons_zero, List.set_cons_succ]
                refine wpH_take (i := 10) (v := (.agg #[.string s, .int .i64 y.at_, .int .i64 y.er])) (some 108) rfl rfl (by kernel_rfl) (by kernel_rfl) (by kernel_rfl) (fun _ _ _ h => h) (Or.inl ⟨by rfl, fun w' hS => (by go_simp)⟩) s12 ?_
                try simp only [Go.Act.put, List.setIfInBounds_toArray, List.set_cons_zero, List.set_cons_succ]
                refine wpH_take (i := 11) (v := (.agg #[.int .u16 e1.1.1, .string e1.1.2, .int .i64 e1.2.1.1, .int .i64 e1.2.1.2.1, .int .i64 e1.2.1.2.2.1, .int .i64 e1.2.1.2.2.2, .int .i64 e1.2.2])) (some 109) rfl rfl (by kernel_rfl) (by kernel_rfl) (by kernel_rfl) (fun _ _ _ h => h) (Or.inl ⟨by rfl, fun w' hS => (by go_simp)⟩) s12 ?_
                try simp only [Go.Act.put, List.setIfInBounds_toArray, List.set_cons_zero, List.set_cons_succ]
                refine wpH_call (i := 13) (o := { dst := some 18, op := Op.alloc 88, type := 0, pos := _, after := #[], guard := none }) (by kernel_rfl) rfl (fun K' hK => ?_)
                rw [if_pos (by rfl)]
                go_simp
                refine hK.out _ _ (s12.alloc _) ?_
                clear hK
                try simp only [Go.Act.put, List.setIfInBounds_toArray, List.set_cons_zero, List.set_cons_succ]
                obtain ⟨E18, hE18⟩ : ∃ E18, E18 = u8.alloc (.cells #[.int .u16 0, .string ⟨#[]⟩, .int .i64 0, .int .i64 0, .int .i64 0, .int .i64 0, .int .i64 0] 88) := ⟨_, rfl⟩
                have te18 : Touch [] u8 E18 := by rw [hE18]; exact (Touch.refl _ _).alloc _
                have a18 : E18.heap[u8.heap.size]? = some (.cells #[.int .u16 0, .string ⟨#[]⟩, .int .i64 0, .int .i64 0, .int .i64 0, .int .i64 0, .int .i64 0] 88 (0, 0)) := by rw [hE18]; exact heap_alloc_new u8 _
                rw [← hE18]
                clear hE18
                obtain ⟨b18, hb18⟩ : ∃ b18, b18 = u8.heap.size := ⟨_, rfl⟩
                rw [← hb18] at a18 ⊢
                have s13 := s12.trans' te18
                have l18 : rB < b18 ∧ wo.heap.size ≤ b18 := by have := s12.size; have := HG.out.sz; omega
                have n78 : b17 ≠ b18 := by have := block_lt a17; have := ((Touch.refl [] E17).trans' te).size; omega
                clear hb18
                refine wpH_call (i := 14) (o := { dst := none, op := Op.store 113 (Operand.tmp 17) (Operand.tmp 108), type := 0, pos := _, after := #[{ on := 12, ground := Ground.data }, { on := 10, ground := Ground.data }, { on := 8, ground := Ground.chain }, { on := 0, ground := Ground.phase }, { on := 1, ground := Ground.phase }, { on := 2, ground := Ground.phase }, { on := 3, ground := Ground.phase }, { on := 4, ground := Ground.phase }, { on := 5, ground := Ground.phase }, { on := 6, ground := Ground.phase }, { on := 7, ground := Ground.phase }, { on := 8, ground := Ground.phase }, { on := 9, ground := Ground.phase }, { on := 10, ground := Ground.phase }, { on := 11, ground := Ground.textOnly Departure.lateStores }, { on := 12, ground := Ground.phase }, { on := 13, ground := Ground.phase }], guard := none }) (by kernel_rfl) rfl (fun K' hK => ?_)
                rw [if_pos (by rfl)]
                have g17 := (((Touch.refl [] E17).trans' te).trans' te18).keep a17 (by simp)
                have m0 := cell_of (n := 0) g17 rfl
                have m1 := cell_of (n := 1) g17 rfl
                have m2 := cell_of (n := 2) g17 rfl
                have f0 := froz_at g17 0
                have f1 := froz_at g17 1
                have f2 := froz_at g17 2
                go_simp
                clear m0 m1 m2 f0 f1 f2
                obtain ⟨F1, hF1⟩ : ∃ F1, F1 = (((E18).setCell ⟨b17, 0, none⟩ (.string s)).setCell ⟨b17, 1, none⟩ (.int .i64 y.at_)).setCell ⟨b17, 2, none⟩ (.int .i64 y.er) := ⟨_, rfl⟩
                rw [← hF1]
                have tF1 : Touch [b17] E18 F1 := by rw [hF1]; exact ((((Touch.refl [b17] E18).setCell (p := ⟨b17, 0, none⟩) (Or.inl (by simp)) (.string s)).setCell (p := ⟨b17, 1, none⟩) (Or.inl (by simp)) (.int .i64 y.at_)).setCell (p := ⟨b17, 2, none⟩) (Or.inl (by simp)) (.int .i64 y.er))
                have h17 : F1.heap[b17]? = some (.cells #[.string s, .int .i64 y.at_, .int .i64 y.er] 113 (0, 0)) := by rw [hF1]; exact (bset (i := 2) (bset (i := 1) (bset (i := 0) g17 (.string s)) (.int .i64 y.at_)) (.int .i64 y.er))
                have g18 := tF1.keep ((Touch.refl [] E18).keep a18 (by simp)) (by simpa using n78.symm)
                clear hF1
                have s14 := s13.trans tF1 (fun k hk => by simp at hk; exact Or.inr (by rw [hk]; exact l17.2))
                refine hK.out _ _ s14 ?_
                clear hK
                try simp only [Go.Act.put, List.setIfInBounds_toArray, List.set_cons_zero, List.set_cons_succ]
                refine wpH_call (i := 15) (o := { dst := none, op := Op.store 88 (Operand.tmp 18) (Operand.tmp 109), type := 0, pos := _, after := #[{ on := 13, ground := Ground.data }, { on := 11, ground := Ground.data }, { on := 14, ground := Ground.chain }, { on := 0, ground := Ground.phase }, { on := 1, ground := Ground.phase }, { on := 2, ground := Ground.phase }, { on := 3, ground := Ground.phase }, { on := 4, ground := Ground.phase }, { on := 5, ground := Ground.phase }, { on := 6, ground := Ground.phase }, { on := 7, ground := Ground.phase }, { on := 8, ground := Ground.phase }, { on := 9, ground := Ground.phase }, { on := 10, ground := Ground.phase }, { on := 11, ground := Ground.phase }, { on := 12, ground := Ground.phase }, { on := 13, ground := Ground.phase }, { on := 14, ground := Ground.phase }], guard := none }) (by kernel_rfl) rfl (fun K' hK => ?_)
                rw [if_pos (by rfl)]
                have m0 := cell_of (n := 0) g18 rfl
                have m1 := cell_of (n := 1) g18 rfl
                have m2 := cell_of (n := 2) g18 rfl
                have m3 := cell_of (n := 3) g18 rfl
                have m4 := cell_of (n := 4) g18 rfl
                have m5 := cell_of (n := 5) g18 rfl
                have m6 := cell_of (n := 6) g18 rfl
                have f0 := froz_at g18 0
                have f1 := froz_at g18 1
                have f2 := froz_at g18 2
                have f3 := froz_at g18 3
                have f4 := froz_at g18 4
                have f5 := froz_at g18 5
                have f6 := froz_at g18 6
                go_simp
                clear m0 m1 m2 m3 m4 m5 m6 f0 f1 f2 f3 f4 f5 f6
                obtain ⟨F2, hF2⟩ : ∃ F2, F2 = (((((((F1).setCell ⟨b18, 0, none⟩ (.int .u16 e1.1.1)).setCell ⟨b18, 1, none⟩ (.string e1.1.2)).setCell ⟨b18, 2, none⟩ (.int .i64 e1.2.1.1)).setCell ⟨b18, 3, none⟩ (.int .i64 e1.2.1.2.1)).setCell ⟨b18, 4, none⟩ (.int .i64 e1.2.1.2.2.1)).setCell ⟨b18, 5, none⟩ (.int .i64 e1.2.1.2.2.2)).setCell ⟨b18, 6, none⟩ (.int .i64 e1.2.2) := ⟨_, rfl⟩
                rw [← hF2]
                have tF2 : Touch [b18] F1 F2 := by rw [hF2]; exact ((((((((Touch.refl [b18] F1).setCell (p := ⟨b18, 0, none⟩) (Or.inl (by simp)) (.int .u16 e1.1.1)).setCell (p := ⟨b18, 1, none⟩) (Or.inl (by simp)) (.string e1.1.2)).setCell (p := ⟨b18, 2, none⟩) (Or.inl (by simp)) (.int .i64 e1.2.1.1)).setCell (p := ⟨b18, 3, none⟩) (Or.inl (by simp)) (.int .i64 e1.2.1.2.1)).setCell (p := ⟨b18, 4, none⟩) (Or.inl (by simp)) (.int .i64 e1.2.1.2.2.1)).setCell (p := ⟨b18, 5, none⟩) (Or.inl (by simp)) (.int .i64 e1.2.1.2.2.2)).setCell (p := ⟨b18, 6, none⟩) (Or.inl (by simp)) (.int .i64 e1.2.2))
                have h18 : F2.heap[b18]? = some (.cells #[.int .u16 e1.1.1, .string e1.1.2, .int .i64 e1.2.1.1, .int .i64 e1.2.1.2.1, .int .i64 e1.2.1.2.2.1, .int .i64 e1.2.1.2.2.2, .int .i64 e1.2.2] 88 (0, 0)) := by rw [hF2]; exact (bset (i := 6) (bset (i := 5) (bset (i := 4) (bset (i := 3) (bset (i := 2) (bset (i := 1) (bset (i := 0) g18 (.int .u16 e1.1.1)) (.string e1.1.2)) (.int .i64 e1.2.1.1)) (.int .i64 e1.2.1.2.1)) (.int .i64 e1.2.1.2.2.1)) (.int .i64 e1.2.1.2.2.2)) (.int .i64 e1.2.2))
                have h17' := tF2.keep h17 (by simpa using n78)
                clear hF2
                have s15 := s14.trans tF2 (fun k hk => by simp at hk; exact Or.inr (by rw [hk]; exact l18.2))
                refine hK.out _ _ s15 ?_
                clear hK
                try simp only [Go.Act.put, List.setIfInBounds_toArray, List.set_cons_zero, List.set_cons_succ]
                refine wpAnyH_done (by kernel_rfl) ?_ _
                go_wp2_with fail
                go_meet
                case rel => exact ⟨b17, b18, e1, rfl, rfl, hid ⟨HG.out.b.call s15, own_touch HG.out.o s15 (fun _ _ e => by cases e), by have := s15.size; have := HG.out.sz; omega, l17.1, l18.1, h17', h18, HY.out, hq1⟩⟩
              refine AllH.cons (o := { dst := some 18, op := Op.alloc 88, type := 0, pos := _, after := #[], guard := none }) rfl (fun K' hK => ?_) ?_
              · rw [if_pos (by rfl)]
                go_simp
                refine hK.out _ _ (s11.alloc _) ?_
                clear hK
                try simp only [Go.Act.put, List.setIfInBounds_toArray, List.set_cons_zero, List.set_cons_succ]
                obtain ⟨E18, hE18⟩ : ∃ E18, E18 = E17.alloc (.cells #[.int .u16 0, .string ⟨#[]⟩, .int .i64 0, .int .i64 0, .int .i64 0, .int .i64 0, .int .i64 0] 88) := ⟨_, rfl⟩
                have te18 : Touch [] E17 E18 := by rw [hE18]; exact (Touch.refl _ _).alloc _
                have a18 : E18.heap[E17.heap.size]? = some (.cells #[.int .u16 0, .string ⟨#[]⟩, .int .i64 0, .int .i64 0, .int .i64 0, .int .i64 0, .int .i64 0] 88 (0, 0)) := by rw [hE18]; exact heap_alloc_new E17 _
                rw [← hE18]
                clear hE18
                obtain ⟨b18, hb18⟩ : ∃ b18, b18 = E17.heap.size := ⟨_, rfl⟩
                rw [← hb18] at a18 ⊢
                have s16 := s11.trans' te18
                have l18 : rB < b18 ∧ wo.heap.size ≤ b18 := by have := s11.size; have := HG.out.sz; omega
                have n78 : b17 ≠ b18 := by have := block_lt a17; have := (Touch.refl [] E17).size; omega
                clear hb18
                refine wpH_call (i := 8) (o := { dst := some 107, op := Op.call { callee := Callee.value (Operand.func 51), args := #[Operand.tmp 99, Operand.tmp 101, Operand.tmp 103, Operand.tmp 106], argTypes := #[113, 29, 2, 119] }, type := 117, pos := _, after := #[{ on := 0, ground := Ground.data }, { on := 2, ground := Ground.data }, { on := 4, ground := Ground.data }, { on := 7, ground := Ground.data }, { on := 7, ground := Ground.chain }], guard := none }) (by kernel_rfl) rfl (fun K' hK => ?_)
                rw [if_pos (by rfl)]
                go_simp
                refine (HEN.out _ (keysL L) _ _ (by have := HLL.out; simpa [keysL] using this) (own_touch ok (((Touch.refl [] u7).trans' te17).trans' te18) (fun _ _ e => by cases e))).mono ?_
                rintro e u8 ⟨e1, he1, hq1, te⟩
                rw [← HY.out] at he1 hq1
                unfold rv nv at he1
                subst he1
                have s17 := s16.trans' te
                refine hK.out _ _ s17 ?_
                clear hK
                try simp only [Go.Act.put, List.setIfInBounds_toArray, List.set_cons_zero, List.set_cons_succ]
                refine wpH_take (i := 9) (v := (.tuple #[(.agg #[.string s, .int .i64 y.at_, .int .i64 y.er]), (.agg #[.int .u16 e1.1.1, .string e1.1.2, .int .i64 e1.2.1.1, .int .i64 e1.2.1.2.1, .int .i64 e1.2.1.2.2.1, .int .i64 e1.2.1.2.2.2, .int .i64 e1.2.2])])) (some 98) rfl rfl (by kernel_rfl) (by kernel_rfl) (by kernel_rfl) (fun _ _ _ h => h) (Or.inl ⟨by rfl, fun w' hS => (by go_simp)⟩) s17 ?_
                try simp only [Go.Act.put, List.setIfInBounds_toArray, List.set_cons_zero, List.set_cons_succ]
                refine wpH_take (i := 10) (v := (.agg #[.string s, .int .i64 y.at_, .int .i64 y.er])) (some 108) rfl rfl (by kernel_rfl) (by kernel_rfl) (by kernel_rfl) (fun _ _ _ h => h) (Or.inl ⟨by rfl, fun w' hS => (by go_simp)⟩) s17 ?_
                try simp only [Go.Act.put, List.setIfInBounds_toArray, List.set_cons_zero, List.set_cons_succ]
                refine wpH_take (i := 11) (v := (.agg #[.int .u16 e1.1.1, .string e1.1.2, .int .i64 e1.2.1.1, .int .i64 e1.2.1.2.1, .int .i64 e1.2.1.2.2.1, .int .i64 e1.2.1.2.2.2, .int .i64 e1.2.2])) (some 109) rfl rfl (by kernel_rfl) (by kernel_rfl) (by kernel_rfl) (fun _ _ _ h => h) (Or.inl ⟨by rfl, fun w' hS => (by go_simp)⟩) s17 ?_
                try simp only [Go.Act.put, List.setIfInBounds_toArray, List.set_cons_zero, List.set_cons_succ]
                refine wpH_call (i := 14) (o := { dst := none, op := Op.store 113 (Operand.tmp 17) (Operand.tmp 108), type := 0, pos := _, after := #[{ on := 12, ground := Ground.data }, { on := 10, ground := Ground.data }, { on := 8, ground := Ground.chain }, { on := 0, ground := Ground.phase }, { on := 1, ground := Ground.phase }, { on := 2, ground := Ground.phase }, { on := 3, ground := Ground.phase }, { on := 4, ground := Ground.phase }, { on := 5, ground := Ground.phase }, { on := 6, ground := Ground.phase }, { on := 7, ground := Ground.phase }, { on := 8, ground := Ground.phase }, { on := 9, ground := Ground.phase }, { on := 10, ground := Ground.phase }, { on := 11, ground := Ground.textOnly Departure.lateStores }, { on := 12, ground := Ground.phase }, { on := 13, ground := Ground.phase }], guard := none }) (by kernel_rfl) rfl (fun K' hK => ?_)
                rw [if_pos (by rfl)]
                have g17 := (((Touch.refl [] E17).trans' te18).trans' te).keep a17 (by simp)
                have m0 := cell_of (n := 0) g17 rfl
                have m1 := cell_of (n := 1) g17 rfl
                have m2 := cell_of (n := 2) g17 rfl
                have f0 := froz_at g17 0
                have f1 := froz_at g17 1
                have f2 := froz_at g17 2
                go_simp
                clear m0 m1 m2 f0 f1 f2
                obtain ⟨F1, hF1⟩ : ∃ F1, F1 = (((u8).setCell ⟨b17, 0, none⟩ (.string s)).setCell ⟨b17, 1, none⟩ (.int .i64 y.at_)).setCell ⟨b17, 2, none⟩ (.int .i64 y.er) := ⟨_, rfl⟩
                rw [← hF1]
                have tF1 : Touch [b17] u8 F1 := by rw [hF1]; exact ((((Touch.refl [b17] u8).setCell (p := ⟨b17, 0, none⟩) (Or.inl (by simp)) (.string s)).setCell (p := ⟨b17, 1, none⟩) (Or.inl (by simp)) (.int .i64 y.at_)).setCell (p := ⟨b17, 2, none⟩) (Or.inl (by simp)) (.int .i64 y.er))
                have h17 : F1.heap[b17]? = some (.cells #[.string s, .int .i64 y.at_, .int .i64 y.er] 113 (0, 0)) := by rw [hF1]; exact (bset (i := 2) (bset (i := 1) (bset (i := 0) g17 (.string s)) (.int .i64 y.at_)) (.int .i64 y.er))
                have g18 := tF1.keep (((Touch.refl [] E18).trans' te).keep a18 (by simp)) (by simpa using n78.symm)
                clear hF1
                have s18 := s17.trans tF1 (fun k hk => by simp at hk; exact Or.inr (by rw [hk]; exact l17.2))
                refine hK.out _ _ s18 ?_
                clear hK
                try simp only [Go.Act.put, List.setIfInBounds_toArray, List.set_cons_zero, List.set_cons_succ]
                refine wpH_call (i := 15) (o := { dst := none, op := Op.store 88 (Operand.tmp 18) (Operand.tmp 109), type := 0, pos := _, after := #[{ on := 13, ground := Ground.data }, { on := 11, ground := Ground.data }, { on := 14, ground := Ground.chain }, { on := 0, ground := Ground.phase }, { on := 1, ground := Ground.phase }, { on := 2, ground := Ground.phase }, { on := 3, ground := Ground.phase }, { on := 4, ground := Ground.phase }, { on := 5, ground := Ground.phase }, { on := 6, ground := Ground.phase }, { on := 7, ground := Ground.phase }, { on := 8, ground := Ground.phase }, { on := 9, ground := Ground.phase }, { on := 10, ground := Ground.phase }, { on := 11, ground := Ground.phase }, { on := 12, ground := Ground.phase }, { on := 13, ground := Ground.phase }, { on := 14, ground := Ground.phase }], guard := none }) (by kernel_rfl) rfl (fun K' hK => ?_)
                rw [if_pos (by rfl)]
                have m0 := cell_of (n := 0) g18 rfl
                have m1 := cell_of (n := 1) g18 rfl
                have m2 := cell_of (n := 2) g18 rfl
                have m3 := cell_of (n := 3) g18 rfl
                have m4 := cell_of (n := 4) g18 rfl
                have m5 := cell_of (n := 5) g18 rfl
                have m6 := cell_of (n := 6) g18 rfl
                have f0 := froz_at g18 0
                have f1 := froz_at g18 1
                have f2 := froz_at g18 2
                have f3 := froz_at g18 3
                have f4 := froz_at g18 4
                have f5 := froz_at g18 5
                have f6 := froz_at g18 6
                go_simp
                clear m0 m1 m2 m3 m4 m5 m6 f0 f1 f2 f3 f4 f5 f6
                obtain ⟨F2, hF2⟩ : ∃ F2, F2 = (((((((F1).setCell ⟨b18, 0, none⟩ (.int .u16 e1.1.1)).setCell ⟨b18, 1, none⟩ (.string e1.1.2)).setCell ⟨b18, 2, none⟩ (.int .i64 e1.2.1.1)).setCell ⟨b18, 3, none⟩ (.int .i64 e1.2.1.2.1)).setCell ⟨b18, 4, none⟩ (.int .i64 e1.2.1.2.2.1)).setCell ⟨b18, 5, none⟩ (.int .i64 e1.2.1.2.2.2)).setCell ⟨b18, 6, none⟩ (.int .i64 e1.2.2) := ⟨_, rfl⟩
                rw [← hF2]
                have tF2 : Touch [b18] F1 F2 := by rw [hF2]; exact ((((((((Touch.refl [b18] F1).setCell (p := ⟨b18, 0, none⟩) (Or.inl (by simp)) (.int .u16 e1.1.1)).setCell (p := ⟨b18, 1, none⟩) (Or.inl (by simp)) (.string e1.1.2)).setCell (p := ⟨b18, 2, none⟩) (Or.inl (by simp)) (.int .i64 e1.2.1.1)).setCell (p := ⟨b18, 3, none⟩) (Or.inl (by simp)) (.int .i64 e1.2.1.2.1)).setCell (p := ⟨b18, 4, none⟩) (Or.inl (by simp)) (.int .i64 e1.2.1.2.2.1)).setCell (p := ⟨b18, 5, none⟩) (Or.inl (by simp)) (.int .i64 e1.2.1.2.2.2)).setCell (p := ⟨b18, 6, none⟩) (Or.inl (by simp)) (.int .i64 e1.2.2))
                have h18 : F2.heap[b18]? = some (.cells #[.int .u16 e1.1.1, .string e1.1.2, .int .i64 e1.2.1.1, .int .i64 e1.2.1.2.1, .int .i64 e1.2.1.2.2.1, .int .i64 e1.2.1.2.2.2, .int .i64 e1.2.2] 88 (0, 0)) := by rw [hF2]; exact (bset (i := 6) (bset (i := 5) (bset (i := 4) (bset (i := 3) (bset (i := 2) (bset (i := 1) (bset (i := 0) g18 (.int .u16 e1.1.1)) (.string e1.1.2)) (.int .i64 e1.2.1.1)) (.int .i64 e1.2.1.2.1)) (.int .i64 e1.2.1.2.2.1)) (.int .i64 e1.2.1.2.2.2)) (.int .i64 e1.2.2))
                have h17' := tF2.keep h17 (by simpa using n78)
                clear hF2
                have s19 := s18.trans tF2 (fun k hk => by simp at hk; exact Or.inr (by rw [hk]; exact l18.2))
                refine hK.out _ _ s19 ?_
                clear hK
                try simp only [Go.Act.put, List.setIfInBounds_toArray, List.set_cons_zero, List.set_cons_succ]
                refine wpAnyH_done (by kernel_rfl) ?_ _
                go_wp2_with fail
                go_meet
                case rel => exact ⟨b17, b18, e1, rfl, rfl, hid ⟨HG.out.b.call s19, own_touch HG.out.o s19 (fun _ _ e => by cases e), by have := s19.size; have := HG.out.sz; omega, l17.1, l18.1, h17', h18, HY.out, hq1⟩⟩
              exact AllH.nil
            refine AllH.cons (o := { dst := some 18, op := Op.alloc 88, type := 0, pos := _, after := #[], guard := none }) rfl (fun K' hK => ?_) ?_
            · rw [if_pos (by rfl)]
              go_simp
              refine hK.out _ _ (s1.alloc _) ?_
              clear hK
              try simp only [Go.Act.put, List.setIfInBounds_toArray, List.set_cons_zero, List.set_cons_succ]
              obtain ⟨E18, hE18⟩ : ∃ E18, E18 = u7.alloc (.cells #[.int .u16 0, .string ⟨#[]⟩, .int .i64 0, .int .i64 0, .int .i64 0, .int .i64 0, .int .i64 0] 88) := ⟨_, rfl⟩
              have te18 : Touch [] u7 E18 := by rw [hE18]; exact (Touch.refl _ _).alloc _
              have a18 : E18.heap[u7.heap.size]? = some (.cells #[.int .u16 0, .string ⟨#[]⟩, .int .i64 0, .int .i64 0, .int .i64 0, .int .i64 0, .int .i64 0] 88 (0, 0)) := by rw [hE18]; exact heap_alloc_new u7 _
              rw [← hE18]
              clear hE18
              obtain ⟨b18, hb18⟩ : ∃ b18, b18 = u7.heap.size := ⟨_, rfl⟩
              rw [← hb18] at a18 ⊢
              have s20 := s1.trans' te18
              have l18 : rB < b18 ∧ wo.heap.size ≤ b18 := by have := s1.size; have := HG.out.sz; omega
              clear hb18
              refine wpH_ready (rs := [8, 12]) (by kernel_rfl) (by simp) ?_
              refine AllH.cons (o := { dst := some 107, op := Op.call { callee := Callee.value (Operand.func 51), args := #[Operand.tmp 99, Operand.tmp 101, Operand.tmp 103, Operand.tmp 106], argTypes := #[113, 29, 2, 119] }, type := 117, pos := _, after := #[{ on := 0, ground := Ground.data }, { on := 2, ground := Ground.data }, { on := 4, ground := Ground.data }, { on := 7, ground := Ground.data }, { on := 7, ground := Ground.chain }], guard := none }) rfl (fun K' hK => ?_) ?_
              · rw [if_pos (by rfl)]
                go_simp
                refine (HEN.out _ (keysL L) _ _ (by have := HLL.out; simpa [keysL] using this) (own_touch ok ((Touch.refl [] u7).trans' te18) (fun _ _ e => by cases e))).mono ?_
                rintro e u8 ⟨e1, he1, hq1, te⟩
                rw [← HY.out] at he1 hq1
                unfold rv nv at he1
                subst he1
                have s21 := s20.trans' te
                refine hK.out _ _ s21 ?_
                clear hK
                try simp only [Go.Act.put, List.setIfInBounds_toArray, List.set_cons_zero, List.set_cons_succ]
                refine wpH_take (i := 9) (v := (.tuple #[(.agg #[.string s, .int .i64 y.at_, .int .i64 y.er]), (.agg #[.int .u16 e1.1.1, .string e1.1.2, .int .i64 e1.2.1.1, .int .i64 e1.2.1.2.1, .int .i64 e1.2.1.2.2.1, .int .i64 e1.2.1.2.2.2, .int .i64 e1.2.2])])) (some 98) rfl rfl (by kernel_rfl) (by kernel_rfl) (by kernel_rfl) (fun _ _ _ h => h) (Or.inl ⟨by rfl, fun w' hS => (by go_simp)⟩) s21 ?_
                try simp only [Go.Act.put, List.setIfInBounds_toArray, List.set_cons_zero, List.set_cons_succ]
                refine wpH_take (i := 10) (v := (.agg #[.string s, .int .i64 y.at_, .int .i64 y.er])) (some 108) rfl rfl (by kernel_rfl) (by kernel_rfl) (by kernel_rfl) (fun _ _ _ h => h) (Or.inl ⟨by rfl, fun w' hS => (by go_simp)⟩) s21 ?_
                try simp only [Go.Act.put, List.setIfInBounds_toArray, List.set_cons_zero, List.set_cons_succ]
                refine wpH_take (i := 11) (v := (.agg #[.int .u16 e1.1.1, .string e1.1.2, .int .i64 e1.2.1.1, .int .i64 e1.2.1.2.1, .int .i64 e1.2.1.2.2.1, .int .i64 e1.2.1.2.2.2, .int .i64 e1.2.2])) (some 109) rfl rfl (by kernel_rfl) (by kernel_rfl) (by kernel_rfl) (fun _ _ _ h => h) (Or.inl ⟨by rfl, fun w' hS => (by go_simp)⟩) s21 ?_
                try simp only [Go.Act.put, List.setIfInBounds_toArray, List.set_cons_zero, List.set_cons_succ]
                refine wpH_call (i := 12) (o := { dst := some 17, op := Op.alloc 113, type := 0, pos := _, after := #[], guard := none }) (by kernel_rfl) rfl (fun K' hK => ?_)
                rw [if_pos (by rfl)]
                go_simp
                refine hK.out _ _ (s21.alloc _) ?_
                clear hK
                try simp only [Go.Act.put, List.setIfInBounds_toArray, List.set_cons_zero, List.set_cons_succ]
                obtain ⟨E17, hE17⟩ : ∃ E17, E17 = u8.alloc (.cells #[.string ⟨#[]⟩, .int .i64 0, .int .i64 0] 113) := ⟨_, rfl⟩
                have te17 : Touch [] u8 E17 := by rw [hE17]; exact (Touch.refl _ _).alloc _
                have a17 : E17.heap[u8.heap.size]? = some (.cells #[.string ⟨#[]⟩, .int .i64 0, .int .i64 0] 113 (0, 0)) := by rw [hE17]; exact heap_alloc_new u8 _
                rw [← hE17]
                clear hE17
                obtain ⟨b17, hb17⟩ : ∃ b17, b17 = u8.heap.size := ⟨_, rfl⟩
                rw [← hb17] at a17 ⊢
                have s22 := s21.trans' te17
                have l17 : rB < b17 ∧ wo.heap.size ≤ b17 := by have := s21.size; have := HG.out.sz; omega
                have n78 : b17 ≠ b18 := by have := block_lt a18; have := ((Touch.refl [] E18).trans' te).size; omega
                clear hb17
                refine wpH_call (i := 14) (o := { dst := none, op := Op.store 113 (Operand.tmp 17) (Operand.tmp 108), type := 0, pos := _, after := #[{ on := 12, ground := Ground.data }, { on := 10, ground := Ground.data }, { on := 8, ground := Ground.chain }, { on := 0, ground := Ground.phase }, { on := 1, ground := Ground.phase }, { on := 2, ground := Ground.phase }, { on := 3, ground := Ground.phase }, { on := 4, ground := Ground.phase }, { on := 5, ground := Ground.phase }, { on := 6, ground := Ground.phase }, { on := 7, ground := Ground.phase }, { on := 8, ground := Ground.phase }, { on := 9, ground := Ground.phase }, { on := 10, ground := Ground.phase }, { on := 11, ground := Ground.textOnly Departure.lateStores }, { on := 12, ground := Ground.phase }, { on := 13, ground := Ground.phase }], guard := none }) (by kernel_rfl) rfl (fun K' hK => ?_)
                rw [if_pos (by rfl)]
                have g17 := (Touch.refl [] E17).keep a17 (by simp)
                have m0 := cell_of (n := 0) g17 rfl
                have m1 := cell_of (n := 1) g17 rfl
                have m2 := cell_of (n := 2) g17 rfl
                have f0 := froz_at g17 0
                have f1 := froz_at g17 1
                have f2 := froz_at g17 2
                go_simp
                clear m0 m1 m2 f0 f1 f2
                obtain ⟨F1, hF1⟩ : ∃ F1, F1 = (((E17).setCell ⟨b17, 0, none⟩ (.string s)).setCell ⟨b17, 1, none⟩ (.int .i64 y.at_)).setCell ⟨b17, 2, none⟩ (.int .i64 y.er) := ⟨_, rfl⟩
                rw [← hF1]
                have tF1 : Touch [b17] E17 F1 := by rw [hF1]; exact ((((Touch.refl [b17] E17).setCell (p := ⟨b17, 0, none⟩) (Or.inl (by simp)) (.string s)).setCell (p := ⟨b17, 1, none⟩) (Or.inl (by simp)) (.int .i64 y.at_)).setCell (p := ⟨b17, 2, none⟩) (Or.inl (by simp)) (.int .i64 y.er))
                have h17 : F1.heap[b17]? = some (.cells #[.string s, .int .i64 y.at_, .int .i64 y.er] 113 (0, 0)) := by rw [hF1]; exact (bset (i := 2) (bset (i := 1) (bset (i := 0) g17 (.string s)) (.int .i64 y.at_)) (.int .i64 y.er))
                have g18 := tF1.keep ((((Touch.refl [] E18).trans' te).trans' te17).keep a18 (by simp)) (by simpa using n78.symm)
                clear hF1
                have s23 := s22.trans tF1 (fun k hk => by simp at hk; exact Or.inr (by rw [hk]; exact l17.2))
                refine hK.out _ _ s23 ?_
                clear hK
                try simp only [Go.Act.put, List.setIfInBounds_toArray, List.set_cons_zero, List.set_cons_succ]
                refine wpH_call (i := 15) (o := { dst := none, op := Op.store 88 (Operand.tmp 18) (Operand.tmp 109), type := 0, pos := _, after := #[{ on := 13, ground := Ground.data }, { on := 11, ground := Ground.data }, { on := 14, ground := Ground.chain }, { on := 0, ground := Ground.phase }, { on := 1, ground := Ground.phase }, { on := 2, ground := Ground.phase }, { on := 3, ground := Ground.phase }, { on := 4, ground := Ground.phase }, { on := 5, ground := Ground.phase }, { on := 6, ground := Ground.phase }, { on := 7, ground := Ground.phase }, { on := 8, ground := Ground.phase }, { on := 9, ground := Ground.phase }, { on := 10, ground := Ground.phase }, { on := 11, ground := Ground.phase }, { on := 12, ground := Ground.phase }, { on := 13, ground := Ground.phase }, { on := 14, ground := Ground.phase }], guard := none }) (by kernel_rfl) rfl (fun K' hK => ?_)
                rw [if_pos (by rfl)]
                have m0 := cell_of (n := 0) g18 rfl
                have m1 := cell_of (n := 1) g18 rfl
                have m2 := cell_of (n := 2) g18 rfl
                have m3 := cell_of (n := 3) g18 rfl
                have m4 := cell_of (n := 4) g18 rfl
                have m5 := cell_of (n := 5) g18 rfl
                have m6 := cell_of (n := 6) g18 rfl
                have f0 := froz_at g18 0
                have f1 := froz_at g18 1
                have f2 := froz_at g18 2
                have f3 := froz_at g18 3
                have f4 := froz_at g18 4
                have f5 := froz_at g18 5
                have f6 := froz_at g18 6
                go_simp
                clear m0 m1 m2 m3 m4 m5 m6 f0 f1 f2 f3 f4 f5 f6
                obtain ⟨F2, hF2⟩ : ∃ F2, F2 = (((((((F1).setCell ⟨b18, 0, none⟩ (.int .u16 e1.1.1)).setCell ⟨b18, 1, none⟩ (.string e1.1.2)).setCell ⟨b18, 2, none⟩ (.int .i64 e1.2.1.1)).setCell ⟨b18, 3, none⟩ (.int .i64 e1.2.1.2.1)).setCell ⟨b18, 4, none⟩ (.int .i64 e1.2.1.2.2.1)).setCell ⟨b18, 5, none⟩ (.int .i64 e1.2.1.2.2.2)).setCell ⟨b18, 6, none⟩ (.int .i64 e1.2.2) := ⟨_, rfl⟩
                rw [← hF2]
                have tF2 : Touch [b18] F1 F2 := by rw [hF2]; exact ((((((((Touch.refl [b18] F1).setCell (p := ⟨b18, 0, none⟩) (Or.inl (by simp)) (.int .u16 e1.1.1)).setCell (p := ⟨b18, 1, none⟩) (Or.inl (by simp)) (.string e1.1.2)).setCell (p := ⟨b18, 2, none⟩) (Or.inl (by simp)) (.int .i64 e1.2.1.1)).setCell (p := ⟨b18, 3, none⟩) (Or.inl (by simp)) (.int .i64 e1.2.1.2.1)).setCell (p := ⟨b18, 4, none⟩) (Or.inl (by simp)) (.int .i64 e1.2.1.2.2.1)).setCell (p := ⟨b18, 5, none⟩) (Or.inl (by simp)) (.int .i64 e1.2.1.2.2.2)).setCell (p := ⟨b18, 6, none⟩) (Or.inl (by simp)) (.int .i64 e1.2.2))
                have h18 : F2.heap[b18]? = some (.cells #[.int .u16 e1.1.1, .string e1.1.2, .int .i64 e1.2.1.1, .int .i64 e1.2.1.2.1, .int .i64 e1.2.1.2.2.1, .int .i64 e1.2.1.2.2.2, .int .i64 e1.2.2] 88 (0, 0)) := by rw [hF2]; exact (bset (i := 6) (bset (i := 5) (bset (i := 4) (bset (i := 3) (bset (i := 2) (bset (i := 1) (bset (i := 0) g18 (.int .u16 e1.1.1)) (.string e1.1.2)) (.int .i64 e1.2.1.1)) (.int .i64 e1.2.1.2.1)) (.int .i64 e1.2.1.2.2.1)) (.int .i64 e1.2.1.2.2.2)) (.int .i64 e1.2.2))
                have h17' := tF2.keep h17 (by simpa using n78)
                clear hF2
                have s24 := s23.trans tF2 (fun k hk => by simp at hk; exact Or.inr (by rw [hk]; exact l18.2))
                refine hK.out _ _ s24 ?_
                clear hK
                try simp only [Go.Act.put, List.setIfInBounds_toArray, List.set_cons_zero, List.set_cons_succ]
                refine wpAnyH_done (by kernel_rfl) ?_ _
                go_wp2_with fail
                go_meet
                case rel => exact ⟨b17, b18, e1, rfl, rfl, hid ⟨HG.out.b.call s24, own_touch HG.out.o s24 (fun _ _ e => by cases e), by have := s24.size; have := HG.out.sz; omega, l17.1, l18.1, h17', h18, HY.out, hq1⟩⟩
              refine AllH.cons (o := { dst := some 17, op := Op.alloc 113, type := 0, pos := _, after := #[], guard := none }) rfl (fun K' hK => ?_) ?_
              · rw [if_pos (by rfl)]
                go_simp
                refine hK.out _ _ (s20.alloc _) ?_
                clear hK
                try simp only [Go.Act.put, List.setIfInBounds_toArray, List.set_cons_zero, List.set_cons_succ]
                obtain ⟨E17, hE17⟩ : ∃ E17, E17 = E18.alloc (.cells #[.string ⟨#[]⟩, .int .i64 0, .int .i64 0] 113) := ⟨_, rfl⟩
                have te17 : Touch [] E18 E17 := by rw [hE17]; exact (Touch.refl _ _).alloc _
                have a17 : E17.heap[E18.heap.size]? = some (.cells #[.string ⟨#[]⟩, .int .i64 0, .int .i64 0] 113 (0, 0)) := by rw [hE17]; exact heap_alloc_new E18 _
                rw [← hE17]
                clear hE17
                obtain ⟨b17, hb17⟩ : ∃ b17, b17 = E18.heap.size := ⟨_, rfl⟩
                rw [← hb17] at a17 ⊢
                have s25 := s20.trans' te17
                have l17 : rB < b17 ∧ wo.heap.size ≤ b17 := by have := s20.size; have := HG.out.sz; omega
                have n78 : b17 ≠ b18 := by have := block_lt a18; have := (Touch.refl [] E18).size; omega
                clear hb17
                refine wpH_call (i := 8) (o := { dst := some 107, op := Op.call { callee := Callee.value (Operand.func 51), args := #[Operand.tmp 99, Operand.tmp 101, Operand.tmp 103, Operand.tmp 106], argTypes := #[113, 29, 2, 119] }, type := 117, pos := _, after := #[{ on := 0, ground := Ground.data }, { on := 2, ground := Ground.data }, { on := 4, ground := Ground.data }, { on := 7, ground := Ground.data }, { on := 7, ground := Ground.chain }], guard := none }) (by kernel_rfl) rfl (fun K' hK => ?_)
                rw [if_pos (by rfl)]
                go_simp
                refine (HEN.out _ (keysL L) _ _ (by have := HLL.out; simpa [keysL] using this) (own_touch ok (((Touch.refl [] u7).trans' te18).trans' te17) (fun _ _ e => by cases e))).mono ?_
                rintro e u8 ⟨e1, he1, hq1, te⟩
                rw [← HY.out] at he1 hq1
                unfold rv nv at he1
                subst he1
                have s26 := s25.trans' te
                refine hK.out _ _ s26 ?_
                clear hK
                try simp only [Go.Act.put, List.setIfInBounds_toArray, List.set_cons_zero, List.set_cons_succ]
                refine wpH_take (i := 9) (v := (.tuple #[(.agg #[.string s, .int .i64 y.at_, .int .i64 y.er]), (.agg #[.int .u16 e1.1.1, .string e1.1.2, .int .i64 e1.2.1.1, .int .i64 e1.2.1.2.1, .int .i64 e1.2.1.2.2.1, .int .i64 e1.2.1.2.2.2, .int .i64 e1.2.2])])) (some 98) rfl rfl (by kernel_rfl) (by kernel_rfl) (by kernel_rfl) (fun _ _ _ h => h) (Or.inl ⟨by rfl, fun w' hS => (by go_simp)⟩) s26 ?_
                try simp only [Go.Act.put, List.setIfInBounds_toArray, List.set_cons_zero, List.set_cons_succ]
                refine wpH_take (i := 10) (v := (.agg #[.string s, .int .i64 y.at_, .int .i64 y.er])) (some 108) rfl rfl (by kernel_rfl) (by kernel_rfl) (by kernel_rfl) (fun _ _ _ h => h) (Or.inl ⟨by rfl, fun w' hS => (by go_simp)⟩) s26 ?_
                try simp only [Go.Act.put, List.setIfInBounds_toArray, List.set_cons_zero, List.set_cons_succ]
                refine wpH_take (i := 11) (v := (.agg #[.int .u16 e1.1.1, .string e1.1.2, .int .i64 e1.2.1.1, .int .i64 e1.2.1.2.1, .int .i64 e1.2.1.2.2.1, .int .i64 e1.2.1.2.2.2, .int .i64 e1.2.2])) (some 109) rfl rfl (by kernel_rfl) (by kernel_rfl) (by kernel_rfl) (fun _ _ _ h => h) (Or.inl ⟨by rfl, fun w' hS => (by go_simp)⟩) s26 ?_
                try simp only [Go.Act.put, List.setIfInBounds_toArray, List.set_cons_zero, List.set_cons_succ]
                refine wpH_call (i := 14) (o := { dst := none, op := Op.store 113 (Operand.tmp 17) (Operand.tmp 108), type := 0, pos := _, after := #[{ on := 12, ground := Ground.data }, { on := 10, ground := Ground.data }, { on := 8, ground := Ground.chain }, { on := 0, ground := Ground.phase }, { on := 1, ground := Ground.phase }, { on := 2, ground := Ground.phase }, { on := 3, ground := Ground.phase }, { on := 4, ground := Ground.phase }, { on := 5, ground := Ground.phase }, { on := 6, ground := Ground.phase }, { on := 7, ground := Ground.phase }, { on := 8, ground := Ground.phase }, { on := 9, ground := Ground.phase }, { on := 10, ground := Ground.phase }, { on := 11, ground := Ground.textOnly Departure.lateStores }, { on := 12, ground := Ground.phase }, { on := 13, ground := Ground.phase }], guard := none }) (by kernel_rfl) rfl (fun K' hK => ?_)
                rw [if_pos (by rfl)]
                have g17 := ((Touch.refl [] E17).trans' te).keep a17 (by simp)
                have m0 := cell_of (n := 0) g17 rfl
                have m1 := cell_of (n := 1) g17 rfl
                have m2 := cell_of (n := 2) g17 rfl
                have f0 := froz_at g17 0
                have f1 := froz_at g17 1
                have f2 := froz_at g17 2
                go_simp
                clear m0 m1 m2 f0 f1 f2
                obtain ⟨F1, hF1⟩ : ∃ F1, F1 = (((u8).setCell ⟨b17, 0, none⟩ (.string s)).setCell ⟨b17, 1, none⟩ (.int .i64 y.at_)).setCell ⟨b17, 2, none⟩ (.int .i64 y.er) := ⟨_, rfl⟩
                rw [← hF1]
                have tF1 : Touch [b17] u8 F1 := by rw [hF1]; exact ((((Touch.refl [b17] u8).setCell (p := ⟨b17, 0, none⟩) (Or.inl (by simp)) (.string s)).setCell (p := ⟨b17, 1, none⟩) (Or.inl (by simp)) (.int .i64 y.at_)).setCell (p := ⟨b17, 2, none⟩) (Or.inl (by simp)) (.int .i64 y.er))
                have h17 : F1.heap[b17]? = some (.cells #[.string s, .int .i64 y.at_, .int .i64 y.er] 113 (0, 0)) := by rw [hF1]; exact (bset (i := 2) (bset (i := 1) (bset (i := 0) g17 (.string s)) (.int .i64 y.at_)) (.int .i64 y.er))
                have g18 := tF1.keep ((((Touch.refl [] E18).trans' te17).trans' te).keep a18 (by simp)) (by simpa using n78.symm)
                clear hF1
                have s27 := s26.trans tF1 (fun k hk => by simp at hk; exact Or.inr (by rw [hk]; exact l17.2))
                refine hK.out _ _ s27 ?_
                clear hK
                try simp only [Go.Act.put, List.setIfInBounds_toArray, List.set_cons_zero, List.set_cons_succ]
                refine wpH_call (i := 15) (o := { dst := none, op := Op.store 88 (Operand.tmp 18) (Operand.tmp 109), type := 0, pos := _, after := #[{ on := 13, ground := Ground.data }, { on := 11, ground := Ground.data }, { on := 14, ground := Ground.chain }, { on := 0, ground := Ground.phase }, { on := 1, ground := Ground.phase }, { on := 2, ground := Ground.phase }, { on := 3, ground := Ground.phase }, { on := 4, ground := Ground.phase }, { on := 5, ground := Ground.phase }, { on := 6, ground := Ground.phase }, { on := 7, ground := Ground.phase }, { on := 8, ground := Ground.phase }, { on := 9, ground := Ground.phase }, { on := 10, ground := Ground.phase }, { on := 11, ground := Ground.phase }, { on := 12, ground := Ground.phase }, { on := 13, ground := Ground.phase }, { on := 14, ground := Ground.phase }], guard := none }) (by kernel_rfl) rfl (fun K' hK => ?_)
                rw [if_pos (by rfl)]
                have m0 := cell_of (n := 0) g18 rfl
                have m1 := cell_of (n := 1) g18 rfl
                have m2 := cell_of (n := 2) g18 rfl
                have m3 := cell_of (n := 3) g18 rfl
                have m4 := cell_of (n := 4) g18 rfl
                have m5 := cell_of (n := 5) g18 rfl
                have m6 := cell_of (n := 6) g18 rfl
                have f0 := froz_at g18 0
                have f1 := froz_at g18 1
                have f2 := froz_at g18 2
                have f3 := froz_at g18 3
                have f4 := froz_at g18 4
                have f5 := froz_at g18 5
                have f6 := froz_at g18 6
                go_simp
                clear m0 m1 m2 m3 m4 m5 m6 f0 f1 f2 f3 f4 f5 f6
                obtain ⟨F2, hF2⟩ : ∃ F2, F2 = (((((((F1).setCell ⟨b18, 0, none⟩ (.int .u16 e1.1.1)).setCell ⟨b18, 1, none⟩ (.string e1.1.2)).setCell ⟨b18, 2, none⟩ (.int .i64 e1.2.1.1)).setCell ⟨b18, 3, none⟩ (.int .i64 e1.2.1.2.1)).setCell ⟨b18, 4, none⟩ (.int .i64 e1.2.1.2.2.1)).setCell ⟨b18, 5, none⟩ (.int .i64 e1.2.1.2.2.2)).setCell ⟨b18, 6, none⟩ (.int .i64 e1.2.2) := ⟨_, rfl⟩
                rw [← hF2]
                have tF2 : Touch [b18] F1 F2 := by rw [hF2]; exact ((((((((Touch.refl [b18] F1).setCell (p := ⟨b18, 0, none⟩) (Or.inl (by simp)) (.int .u16 e1.1.1)).setCell (p := ⟨b18, 1, none⟩) (Or.inl (by simp)) (.string e1.1.2)).setCell (p := ⟨b18, 2, none⟩) (Or.inl (by simp)) (.int .i64 e1.2.1.1)).setCell (p := ⟨b18, 3, none⟩) (Or.inl (by simp)) (.int .i64 e1.2.1.2.1)).setCell (p := ⟨b18, 4, none⟩) (Or.inl (by simp)) (.int .i64 e1.2.1.2.2.1)).setCell (p := ⟨b18, 5, none⟩) (Or.inl (by simp)) (.int .i64 e1.2.1.2.2.2)).setCell (p := ⟨b18, 6, none⟩) (Or.inl (by simp)) (.int .i64 e1.2.2))
                have h18 : F2.heap[b18]? = some (.cells #[.int .u16 e1.1.1, .string e1.1.2, .int .i64 e1.2.1.1, .int .i64 e1.2.1.2.1, .int .i64 e1.2.1.2.2.1, .int .i64 e1.2.1.2.2.2, .int .i64 e1.2.2] 88 (0, 0)) := by rw [hF2]; exact (bset (i := 6) (bset (i := 5) (bset (i := 4) (bset (i := 3) (bset (i := 2) (bset (i := 1) (bset (i := 0) g18 (.int .u16 e1.1.1)) (.string e1.1.2)) (.int .i64 e1.2.1.1)) (.int .i64 e1.2.1.2.1)) (.int .i64 e1.2.1.2.2.1)) (.int .i64 e1.2.1.2.2.2)) (.int .i64 e1.2.2))
                have h17' := tF2.keep h17 (by simpa using n78)
                clear hF2
                have s28 := s27.trans tF2 (fun k hk => by simp at hk; exact Or.inr (by rw [hk]; exact l18.2))
                refine hK.out _ _ s28 ?_
                clear hK
                try simp only [Go.Act.put, List.setIfInBounds_toArray, List.set_cons_zero, List.set_cons_succ]
                refine wpAnyH_done (by kernel_rfl) ?_ _
                go_wp2_with fail
                go_meet
                case rel => exact ⟨b17, b18, e1, rfl, rfl, hid ⟨HG.out.b.call s28, own_touch HG.out.o s28 (fun _ _ e => by cases e), by have := s28.size; have := HG.out.sz; omega, l17.1, l18.1, h17', h18, HY.out, hq1⟩⟩
              exact AllH.nil
            exact AllH.nil
          refine AllH.cons (o := { dst := some 17, op := Op.alloc 113, type := 0, pos := _, after := #[], guard := none }) rfl (fun K' hK => ?_) ?_
          · rw [if_pos (by rfl)]
            go_simp
            refine hK.out _ _ (s0.alloc _) ?_
            clear hK
            try simp only [Go.Act.put, List.setIfInBounds_toArray, List.set_cons_zero, List.set_cons_succ]
            obtain ⟨E17, hE17⟩ : ∃ E17, E17 = V0.alloc (.cells #[.string ⟨#[]⟩, .int .i64 0, .int .i64 0] 113) := ⟨_, rfl⟩
            have te17 : Touch [] V0 E17 := by rw [hE17]; exact (Touch.refl _ _).alloc _
            have a17 : E17.heap[V0.heap.size]? = some (.cells #[.string ⟨#[]⟩, .int .i64 0, .int .i64 0] 113 (0, 0)) := by rw [hE17]; exact heap_alloc_new V0 _
            rw [← hE17]
            clear hE17
            obtain ⟨b17, hb17⟩ : ∃ b17, b17 = V0.heap.size := ⟨_, rfl⟩
            rw [← hb17] at a17 ⊢
            have s29 := s0.trans' te17
            have l17 : rB < b17 ∧ wo.heap.size ≤ b17 := by have := s0.size; have := HG.out.sz; omega
            clear hb17
            refine wpH_ready (rs := [7, 13]) (by kernel_rfl) (by simp) ?_
            refine AllH.cons (o := { dst := some 106, op := Op.call { callee := Callee.value (Operand.func 52), args := #[Operand.tmp 105], argTypes := #[30] }, type := 119, pos := _, after := #[{ on := 6, ground := Ground.data }], guard := none }) rfl (fun K' hK => ?_) ?_
            · rw [if_pos (by rfl)]
              go_simp
              refine (HKS.out _ s29).mono ?_
              rintro e u7 ⟨ks, rfl, ok, tk⟩
              obtain ⟨ka, kc, ek⟩ := own_form ok
              subst ek
              have s30 := s29.trans' tk
              refine hK.out _ _ s30 ?_
              clear hK
              try simp only [Go.Act.put, List.setIfInBounds_toArray, List.set_cons_zero, List.set_cons_succ]
              refine wpH_ready (rs := [8, 13]) (by kernel_rfl) (by simp) ?_
              refine AllH.cons (o := { dst := some 107, op := Op.call { callee := Callee.value (Operand.func 51), args := #[Operand.tmp 99, Operand.tmp 101, Operand.tmp 103, Operand.tmp 106], argTypes := #[113, 29, 2, 119] }, type := 117, pos := _, after := #[{ on := 0, ground := Ground.data }, { on := 2, ground := Ground.data }, { on := 4, ground := Ground.data }, { on := 7, ground := Ground.data }, { on := 7, ground := Ground.chain }], guard := none }) rfl (fun K' hK => ?_) ?_
              · rw [if_pos (by rfl)]
                go_simp
                refine (HEN.out _ (keysL L) _ _ (by have := HLL.out; simpa [keysL] using this) (own_touch ok (Touch.refl [] u7) (fun _ _ e => by cases e))).mono ?_
                rintro e u8 ⟨e1, he1, hq1, te⟩
                rw [← HY.out] at he1 hq1
                unfold rv nv at he1
                subst he1
                have s31 := s30.trans' te
                refine hK.out _ _ s31 ?_
                clear hK
                try simp only [Go.Act.put, List.setIfInBounds_toArray, List.set_cons_zero, List.set_cons_succ]
                refine wpH_take (i := 9) (v := (.tuple #[(.agg #[.string s, .int .i64 y.at_, .int .i64 y.er]), (.agg #[.int .u16 e1.1.1, .string e1.1.2, .int .i64 e1.2.1.1, .int .i64 e1.2.1.2.1, .int .i64 e1.2.1.2.2.1, .int .i64 e1.2.1.2.2.2, .int .i64 e1.2.2])])) (some 98) rfl rfl (by kernel_rfl) (by kernel_rfl) (by kernel_rfl) (fun _ _ _ h => h) (Or.inl ⟨by rfl, fun w' hS => (by go_simp)⟩) s31 ?_
                try simp only [Go.Act.put, List.setIfInBounds_toArray, List.set_cons_zero, List.set_cons_succ]
                refine wpH_take (i := 10) (v := (.agg #[.string s, .int .i64 y.at_, .int .i64 y.er])) (some 108) rfl rfl (by kernel_rfl) (by kernel_rfl) (by kernel_rfl) (fun _ _ _ h => h) (Or.inl ⟨by rfl, fun w' hS => (by go_simp)⟩) s31 ?_
                try simp only [Go.Act.put, List.setIfInBounds_toArray, List.set_cons_zero, List.set_cons_succ]
                refine wpH_take (i := 11) (v := (.agg #[.int .u16 e1.1.1, .string e1.1.2, .int .i64 e1.2.1.1, .int .i64 e1.2.1.2.1, .int .i64 e1.2.1.2.2.1, .int .i64 e1.2.1.2.2.2, .int .i64 e1.2.2])) (some 109) rfl rfl (by kernel_rfl) (by kernel_rfl) (by kernel_rfl) (fun _ _ _ h => h) (Or.inl ⟨by rfl, fun w' hS => (by go_simp)⟩) s31 ?_
                try simp only [Go.Act.put, List.setIfInBounds_toArray, List.set_cons_zero, List.set_cons_succ]
                refine wpH_call (i := 13) (o := { dst := some 18, op := Op.alloc 88, type := 0, pos := _, after := #[], guard := none }) (by kernel_rfl) rfl (fun K' hK => ?_)
                rw [if_pos (by rfl)]
                go_simp
                refine hK.out _ _ (s31.alloc _) ?_
                clear hK
                try simp only [Go.Act.put, List.setIfInBounds_toArray, List.set_cons_zero, List.set_cons_succ]
                obtain ⟨E18, hE18⟩ : ∃ E18, E18 = u8.alloc (.cells #[.int .u16 0, .string ⟨#[]⟩, .int .i64 0, .int .i64 0, .int .i64 0, .int .i64 0, .int .i64 0] 88) := ⟨_, rfl⟩
                have te18 : Touch [] u8 E18 := by rw [hE18]; exact (Touch.refl _ _).alloc _
                have a18 : E18.heap[u8.heap.size]? = some (.cells #[.int .u16 0, .string ⟨#[]⟩, .int .i64 0, .int .i64 0, .int .i64 0, .int .i64 0, .int .i64 0] 88 (0, 0)) := by rw [hE18]; exact heap_alloc_new u8 _
                rw [← hE18]
                clear hE18
                obtain ⟨b18, hb18⟩ : ∃ b18, b18 = u8.heap.size := ⟨_, rfl⟩
                rw [← hb18] at a18 ⊢
                have s32 := s31.trans' te18
                have l18 : rB < b18 ∧ wo.heap.size ≤ b18 := by have := s31.size; have := HG.out.sz; omega
                have n78 : b17 ≠ b18 := by have := block_lt a17; have := (((Touch.refl [] E17).trans' tk).trans' te).size; omega
                clear hb18
                refine wpH_call (i := 14) (o := { dst := none, op := Op.store 113 (Operand.tmp 17) (Operand.tmp 108), type := 0, pos := _, after := #[{ on := 12, ground := Ground.data }, { on := 10, ground := Ground.data }, { on := 8, ground := Ground.chain }, { on := 0, ground := Ground.phase }, { on := 1, ground := Ground.phase }, { on := 2, ground := Ground.phase }, { on := 3, ground := Ground.phase }, { on := 4, ground := Ground.phase }, { on := 5, ground := Ground.phase }, { on := 6, ground := Ground.phase }, { on := 7, ground := Ground.phase }, { on := 8, ground := Ground.phase }, { on := 9, ground := Ground.phase }, { on := 10, ground := Ground.phase }, { on := 11, ground := Ground.textOnly Departure.lateStores }, { on := 12, ground := Ground.phase }, { on := 13, ground := Ground.phase }], guard := none }) (by kernel_rfl) rfl (fun K' hK => ?_)
                rw [if_pos (by rfl)]
                have g17 := ((((Touch.refl [] E17).trans' tk).trans' te).trans' te18).keep a17 (by simp)
                have m0 := cell_of (n := 0) g17 rfl
                have m1 := cell_of (n := 1) g17 rfl
                have m2 := cell_of (n := 2) g17 rfl
                have f0 := froz_at g17 0
                have f1 := froz_at g17 1
                have f2 := froz_at g17 2
                go_simp
                clear m0 m1 m2 f0 f1 f2
                obtain ⟨F1, hF1⟩ : ∃ F1, F1 = (((E18).setCell ⟨b17, 0, none⟩ (.string s)).setCell ⟨b17, 1, none⟩ (.int .i64 y.at_)).setCell ⟨b17, 2, none⟩ (.int .i64 y.er) := ⟨_, rfl⟩
                rw [← hF1]
                have tF1 : Touch [b17] E18 F1 := by rw [hF1]; exact ((((Touch.refl [b17] E18).setCell (p := ⟨b17, 0, none⟩) (Or.inl (by simp)) (.string s)).setCell (p := ⟨b17, 1, none⟩) (Or.inl (by simp)) (.int .i64 y.at_)).setCell (p := ⟨b17, 2, none⟩) (Or.inl (by simp)) (.int .i64 y.er))
                have h17 : F1.heap[b17]? = some (.cells #[.string s, .int .i64 y.at_, .int .i64 y.er] 113 (0, 0)) := by rw [hF1]; exact (bset (i := 2) (bset (i := 1) (bset (i := 0) g17 (.string s)) (.int .i64 y.at_)) (.int .i64 y.er))
                have g18 := tF1.keep ((Touch.refl [] E18).keep a18 (by simp)) (by simpa using n78.symm)
                clear hF1
                have s33 := s32.trans tF1 (fun k hk => by simp at hk; exact Or.inr (by rw [hk]; exact l17.2))
                refine hK.out _ _ s33 ?_
                clear hK
                try simp only [Go.Act.put, List.setIfInBounds_toArray, List.set_cons_zero, List.set_cons_succ]
                refine wpH_call (i := 15) (o := { dst := none, op := Op.store 88 (Operand.tmp 18) (Operand.tmp 109), type := 0, pos := _, after := #[{ on := 13, ground := Ground.data }, { on := 11, ground := Ground.data }, { on := 14, ground := Ground.chain }, { on := 0, ground := Ground.phase }, { on := 1, ground := Ground.phase }, { on := 2, ground := Ground.phase }, { on := 3, ground := Ground.phase }, { on := 4, ground := Ground.phase }, { on := 5, ground := Ground.phase }, { on := 6, ground := Ground.phase }, { on := 7, ground := Ground.phase }, { on := 8, ground := Ground.phase }, { on := 9, ground := Ground.phase }, { on := 10, ground := Ground.phase }, { on := 11, ground := Ground.phase }, { on := 12, ground := Ground.phase }, { on := 13, ground := Ground.phase }, { on := 14, ground := Ground.phase }], guard := none }) (by kernel_rfl) rfl (fun K' hK => ?_)
                rw [if_pos (by rfl)]
                have m0 := cell_of (n := 0) g18 rfl
                have m1 := cell_of (n := 1) g18 rfl
                have m2 := cell_of (n := 2) g18 rfl
                have m3 := cell_of (n := 3) g18 rfl
                have m4 := cell_of (n := 4) g18 rfl
                have m5 := cell_of (n := 5) g18 rfl
                have m6 := cell_of (n := 6) g18 rfl
                have f0 := froz_at g18 0
                have f1 := froz_at g18 1
                have f2 := froz_at g18 2
                have f3 := froz_at g18 3
                have f4 := froz_at g18 4
                have f5 := froz_at g18 5
                have f6 := froz_at g18 6
                go_simp
                clear m0 m1 m2 m3 m4 m5 m6 f0 f1 f2 f3 f4 f5 f6
                obtain ⟨F2, hF2⟩ : ∃ F2, F2 = (((((((F1).setCell ⟨b18, 0, none⟩ (.int .u16 e1.1.1)).setCell ⟨b18, 1, none⟩ (.string e1.1.2)).setCell ⟨b18, 2, none⟩ (.int .i64 e1.2.1.1)).setCell ⟨b18, 3, none⟩ (.int .i64 e1.2.1.2.1)).setCell ⟨b18, 4, none⟩ (.int .i64 e1.2.1.2.2.1)).setCell ⟨b18, 5, none⟩ (.int .i64 e1.2.1.2.2.2)).setCell ⟨b18, 6, none⟩ (.int .i64 e1.2.2) := ⟨_, rfl⟩
                rw [← hF2]
                have tF2 : Touch [b18] F1 F2 := by rw [hF2]; exact ((((((((Touch.refl [b18] F1).setCell (p := ⟨b18, 0, none⟩) (Or.inl (by simp)) (.int .u16 e1.1.1)).setCell (p := ⟨b18, 1, none⟩) (Or.inl (by simp)) (.string e1.1.2)).setCell (p := ⟨b18, 2, none⟩) (Or.inl (by simp)) (.int .i64 e1.2.1.1)).setCell (p := ⟨b18, 3, none⟩) (Or.inl (by simp)) (.int .i64 e1.2.1.2.1)).setCell (p := ⟨b18, 4, none⟩) (Or.inl (by simp)) (.int .i64 e1.2.1.2.2.1)).setCell (p := ⟨b18, 5, none⟩) (Or.inl (by simp)) (.int .i64 e1.2.1.2.2.2)).setCell (p := ⟨b18, 6, none⟩) (Or.inl (by simp)) (.int .i64 e1.2.2))
                have h18 : F2.heap[b18]? = some (.cells #[.int .u16 e1.1.1, .string e1.1.2, .int .i64 e1.2.1.1, .int .i64 e1.2.1.2.1, .int .i64 e1.2.1.2.2.1, .int .i64 e1.2.1.2.2.2, .int .i64 e1.2.2] 88 (0, 0)) := by rw [hF2]; exact (bset (i := 6) (bset (i := 5) (bset (i := 4) (bset (i := 3) (bset (i := 2) (bset (i := 1) (bset (i := 0) g18 (.int .u16 e1.1.1)) (.string e1.1.2)) (.int .i64 e1.2.1.1)) (.int .i64 e1.2.1.2.1)) (.int .i64 e1.2.1.2.2.1)) (.int .i64 e1.2.1.2.2.2)) (.int .i64 e1.2.2))
                have h17' := tF2.keep h17 (by simpa using n78)
                clear hF2
                have s34 := s33.trans tF2 (fun k hk => by simp at hk; exact Or.inr (by rw [hk]; exact l18.2))
                refine hK.out _ _ s34 ?_
                clear hK
                try simp only [Go.Act.put, List.setIfInBounds_toArray, List.set_cons_zero, List.set_cons_succ]
                refine wpAnyH_done (by kernel_rfl) ?_ _
                go_wp2_with fail
                go_meet
                case rel => exact ⟨b17, b18, e1, rfl, rfl, hid ⟨HG.out.b.call s34, own_touch HG.out.o s34 (fun _ _ e => by cases e), by have := s34.size; have := HG.out.sz; omega, l17.1, l18.1, h17', h18, HY.out, hq1⟩⟩
              refine AllH.cons (o := { dst := some 18, op := Op.alloc 88, type := 0, pos := _, after := #[], guard := none }) rfl (fun K' hK => ?_) ?_
              · rw [if_pos (by rfl)]
                go_simp
                refine hK.out _ _ (s30.alloc _) ?_
                clear hK
                try simp only [Go.Act.put, List.setIfInBounds_toArray, List.set_cons_zero, List.set_cons_succ]
                obtain ⟨E18, hE18⟩ : ∃ E18, E18 = u7.alloc (.cells #[.int .u16 0, .string ⟨#[]⟩, .int .i64 0, .int .i64 0, .int .i64 0, .int .i64 0, .int .i64 0] 88) := ⟨_, rfl⟩
                have te18 : Touch [] u7 E18 := by rw [hE18]; exact (Touch.refl _ _).alloc _
                have a18 : E18.heap[u7.heap.size]? = some (.cells #[.int .u16 0, .string ⟨#[]⟩, .int .i64 0, .int .i64 0, .int .i64 0, .int .i64 0, .int .i64 0] 88 (0, 0)) := by rw [hE18]; exact heap_alloc_new u7 _
                rw [← hE18]
                clear hE18
                obtain ⟨b18, hb18⟩ : ∃ b18, b18 = u7.heap.size := ⟨_, rfl⟩
                rw [← hb18] at a18 ⊢
                have s35 := s30.trans' te18
                have l18 : rB < b18 ∧ wo.heap.size ≤ b18 := by have := s30.size; have := HG.out.sz; omega
                have n78 : b17 ≠ b18 := by have := block_lt a17; have := ((Touch.refl [] E17).trans' tk).size; omega
                clear hb18
                refine wpH_call (i := 8) (o := { dst := some 107, op := Op.call { callee := Callee.value (Operand.func 51), args := #[Operand.tmp 99, Operand.tmp 101, Operand.tmp 103, Operand.tmp 106], argTypes := #[113, 29, 2, 119] }, type := 117, pos := _, after := #[{ on := 0, ground := Ground.data }, { on := 2, ground := Ground.data }, { on := 4, ground := Ground.data }, { on := 7, ground := Ground.data }, { on := 7, ground := Ground.chain }], guard := none }) (by kernel_rfl) rfl (fun K' hK => ?_)
                rw [if_pos (by rfl)]
                go_simp
                refine (HEN.out _ (keysL L) _ _ (by have := HLL.out; simpa [keysL] using this) (own_touch ok ((Touch.refl [] u7).trans' te18) (fun _ _ e => by cases e))).mono ?_
                rintro e u8 ⟨e1, he1, hq1, te⟩
                rw [← HY.out] at he1 hq1
                unfold rv nv at he1
                subst he1
                have s36 := s35.trans' te
                refine hK.out _ _ s36 ?_
                clear hK
                try simp only [Go.Act.put, List.setIfInBounds_toArray, List.set_cons_zero, List.set_cons_succ]
                refine wpH_take (i := 9) (v := (.tuple #[(.agg #[.string s, .int .i64 y.at_, .int .i64 y.er]), (.agg #[.int .u16 e1.1.1, .string e1.1.2, .int .i64 e1.2.1.1, .int .i64 e1.2.1.2.1, .int .i64 e1.2.1.2.2.1, .int .i64 e1.2.1.2.2.2, .int .i64 e1.2.2])])) (some 98) rfl rfl (by kernel_rfl) (by kernel_rfl) (by kernel_rfl) (fun _ _ _ h => h) (Or.inl ⟨by rfl, fun w' hS => (by go_simp)⟩) s36 ?_
                try simp only [Go.Act.put, List.setIfInBounds_toArray, List.set_cons_zero, List.set_cons_succ]
                refine wpH_take (i := 10) (v := (.agg #[.string s, .int .i64 y.at_, .int .i64 y.er])) (some 108) rfl rfl (by kernel_rfl) (by kernel_rfl) (by kernel_rfl) (fun _ _ _ h => h) (Or.inl ⟨by rfl, fun w' hS => (by go_simp)⟩) s36 ?_
                try simp only [Go.Act.put, List.setIfInBounds_toArray, List.set_cons_zero, List.set_cons_succ]
                refine wpH_take (i := 11) (v := (.agg #[.int .u16 e1.1.1, .string e1.1.2, .int .i64 e1.2.1.1, .int .i64 e1.2.1.2.1, .int .i64 e1.2.1.2.2.1, .int .i64 e1.2.1.2.2.2, .int .i64 e1.2.2])) (some 109) rfl rfl (by kernel_rfl) (by kernel_rfl) (by kernel_rfl) (fun _ _ _ h => h) (Or.inl ⟨by rfl, fun w' hS => (by go_simp)⟩) s36 ?_
                try simp only [Go.Act.put, List.setIfInBounds_toArray, List.set_cons_zero, List.set_cons_succ]
                refine wpH_call (i := 14) (o := { dst := none, op := Op.store 113 (Operand.tmp 17) (Operand.tmp 108), type := 0, pos := _, after := #[{ on := 12, ground := Ground.data }, { on := 10, ground := Ground.data }, { on := 8, ground := Ground.chain }, { on := 0, ground := Ground.phase }, { on := 1, ground := Ground.phase }, { on := 2, ground := Ground.phase }, { on := 3, ground := Ground.phase }, { on := 4, ground := Ground.phase }, { on := 5, ground := Ground.phase }, { on := 6, ground := Ground.phase }, { on := 7, ground := Ground.phase }, { on := 8, ground := Ground.phase }, { on := 9, ground := Ground.phase }, { on := 10, ground := Ground.phase }, { on := 11, ground := Ground.textOnly Departure.lateStores }, { on := 12, ground := Ground.phase }, { on := 13, ground := Ground.phase }], guard := none }) (by kernel_rfl) rfl (fun K' hK => ?_)
                rw [if_pos (by rfl)]
                have g17 := ((((Touch.refl [] E17).trans' tk).trans' te18).trans' te).keep a17 (by simp)
                have m0 := cell_of (n := 0) g17 rfl
                have m1 := cell_of (n := 1) g17 rfl
                have m2 := cell_of (n := 2) g17 rfl
                have f0 := froz_at g17 0
                have f1 := froz_at g17 1
                have f2 := froz_at g17 2
                go_simp
                clear m0 m1 m2 f0 f1 f2
                obtain ⟨F1, hF1⟩ : ∃ F1, F1 = (((u8).setCell ⟨b17, 0, none⟩ (.string s)).setCell ⟨b17, 1, none⟩ (.int .i64 y.at_)).setCell ⟨b17, 2, none⟩ (.int .i64 y.er) := ⟨_, rfl⟩
                rw [← hF1]
                have tF1 : Touch [b17] u8 F1 := by rw [hF1]; exact ((((Touch.refl [b17] u8).setCell (p := ⟨b17, 0, none⟩) (Or.inl (by simp)) (.string s)).setCell (p := ⟨b17, 1, none⟩) (Or.inl (by simp)) (.int .i64 y.at_)).setCell (p := ⟨b17, 2, none⟩) (Or.inl (by simp)) (.int .i64 y.er))
                have h17 : F1.heap[b17]? = some (.cells #[.string s, .int .i64 y.at_, .int .i64 y.er] 113 (0, 0)) := by rw [hF1]; exact (bset (i := 2) (bset (i := 1) (bset (i := 0) g17 (.string s)) (.int .i64 y.at_)) (.int .i64 y.er))
                have g18 := tF1.keep (((Touch.refl [] E18).trans' te).keep a18 (by simp)) (by simpa using n78.symm)
                clear hF1
                have s37 := s36.trans tF1 (fun k hk => by simp at hk; exact Or.inr (by rw [hk]; exact l17.2))
                refine hK.out _ _ s37 ?_
                clear hK
                try simp only [Go.Act.put, List.setIfInBounds_toArray, List.set_cons_zero, List.set_cons_succ]
                refine wpH_call (i := 15) (o := { dst := none, op := Op.store 88 (Operand.tmp 18) (Operand.tmp 109), type := 0, pos := _, after := #[{ on := 13, ground := Ground.data }, { on := 11, ground := Ground.data }, { on := 14, ground := Ground.chain }, { on := 0, ground := Ground.phase }, { on := 1, ground := Ground.phase }, { on := 2, ground := Ground.phase }, { on := 3, ground := Ground.phase }, { on := 4, ground := Ground.phase }, { on := 5, ground := Ground.phase }, { on := 6, ground := Ground.phase }, { on := 7, ground := Ground.phase }, { on := 8, ground := Ground.phase }, { on := 9, ground := Ground.phase }, { on := 10, ground := Ground.phase }, { on := 11, ground := Ground.phase }, { on := 12, ground := Ground.phase }, { on := 13, ground := Ground.phase }, { on := 14, ground := Ground.phase }], guard := none }) (by kernel_rfl) rfl (fun K' hK => ?_)
                rw [if_pos (by rfl)]
                have m0 := cell_of (n := 0) g18 rfl
                have m1 := cell_of (n := 1) g18 rfl
                have m2 := cell_of (n := 2) g18 rfl
                have m3 := cell_of (n := 3) g18 rfl
                have m4 := cell_of (n := 4) g18 rfl
                have m5 := cell_of (n := 5) g18 rfl
                have m6 := cell_of (n := 6) g18 rfl
                have f0 := froz_at g18 0
                have f1 := froz_at g18 1
                have f2 := froz_at g18 2
                have f3 := froz_at g18 3
                have f4 := froz_at g18 4
                have f5 := froz_at g18 5
                have f6 := froz_at g18 6
                go_simp
                clear m0 m1 m2 m3 m4 m5 m6 f0 f1 f2 f3 f4 f5 f6
                obtain ⟨F2, hF2⟩ : ∃ F2, F2 = (((((((F1).setCell ⟨b18, 0, none⟩ (.int .u16 e1.1.1)).setCell ⟨b18, 1, none⟩ (.string e1.1.2)).setCell ⟨b18, 2, none⟩ (.int .i64 e1.2.1.1)).setCell ⟨b18, 3, none⟩ (.int .i64 e1.2.1.2.1)).setCell ⟨b18, 4, none⟩ (.int .i64 e1.2.1.2.2.1)).setCell ⟨b18, 5, none⟩ (.int .i64 e1.2.1.2.2.2)).setCell ⟨b18, 6, none⟩ (.int .i64 e1.2.2) := ⟨_, rfl⟩
                rw [← hF2]
                have tF2 : Touch [b18] F1 F2 := by rw [hF2]; exact ((((((((Touch.refl [b18] F1).setCell (p := ⟨b18, 0, none⟩) (Or.inl (by simp)) (.int .u16 e1.1.1)).setCell (p := ⟨b18, 1, none⟩) (Or.inl (by simp)) (.string e1.1.2)).setCell (p := ⟨b18, 2, none⟩) (Or.inl (by simp)) (.int .i64 e1.2.1.1)).setCell (p := ⟨b18, 3, none⟩) (Or.inl (by simp)) (.int .i64 e1.2.1.2.1)).setCell (p := ⟨b18, 4, none⟩) (Or.inl (by simp)) (.int .i64 e1.2.1.2.2.1)).setCell (p := ⟨b18, 5, none⟩) (Or.inl (by simp)) (.int .i64 e1.2.1.2.2.2)).setCell (p := ⟨b18, 6, none⟩) (Or.inl (by simp)) (.int .i64 e1.2.2))
                have h18 : F2.heap[b18]? = some (.cells #[.int .u16 e1.1.1, .string e1.1.2, .int .i64 e1.2.1.1, .int .i64 e1.2.1.2.1, .int .i64 e1.2.1.2.2.1, .int .i64 e1.2.1.2.2.2, .int .i64 e1.2.2] 88 (0, 0)) := by rw [hF2]; exact (bset (i := 6) (bset (i := 5) (bset (i := 4) (bset (i := 3) (bset (i := 2) (bset (i := 1) (bset (i := 0) g18 (.int .u16 e1.1.1)) (.string e1.1.2)) (.int .i64 e1.2.1.1)) (.int .i64 e1.2.1.2.1)) (.int .i64 e1.2.1.2.2.1)) (.int .i64 e1.2.1.2.2.2)) (.int .i64 e1.2.2))
                have h17' := tF2.keep h17 (by simpa using n78)
                clear hF2
                have s38 := s37.trans tF2 (fun k hk => by simp at hk; exact Or.inr (by rw [hk]; exact l18.2))
                refine hK.out _ _ s38 ?_
                clear hK
                try simp only [Go.Act.put, List.setIfInBounds_toArray, List.set_cons_zero, List.set_cons_succ]
                refine wpAnyH_done (by kernel_rfl) ?_ _
                go_wp2_with fail
                go_meet
                case rel => exact ⟨b17, b18, e1, rfl, rfl, hid ⟨HG.out.b.call s38, own_touch HG.out.o s38 (fun _ _ e => by cases e), by have := s38.size; have := HG.out.sz; omega, l17.1, l18.1, h17', h18, HY.out, hq1⟩⟩
              exact AllH.nil
            refine AllH.cons (o := { dst := some 18, op := Op.alloc 88, type := 0, pos := _, after := #[], guard := none }) rfl (fun K' hK => ?_) ?_
            · rw [if_pos (by rfl)]
              go_simp
              refine hK.out _ _ (s29.alloc _) ?_
              clear hK
              try simp only [Go.Act.put, List.setIfInBounds_toArray, List.set_cons_zero, List.set_cons_succ]
              obtain ⟨E18, hE18⟩ : ∃ E18, E18 = E17.alloc (.cells #[.int .u16 0, .string ⟨#[]⟩, .int .i64 0, .int .i64 0, .int .i64 0, .int .i64 0, .int .i64 0] 88) := ⟨_, rfl⟩
              have te18 : Touch [] E17 E18 := by rw [hE18]; exact (Touch.refl _ _).alloc _
              have a18 : E18.heap[E17.heap.size]? = some (.cells #[.int .u16 0, .string ⟨#[]⟩, .int .i64 0, .int .i64 0, .int .i64 0, .int .i64 0, .int .i64 0] 88 (0, 0)) := by rw [hE18]; exact heap_alloc_new E17 _
              rw [← hE18]
              clear hE18
              obtain ⟨b18, hb18⟩ : ∃ b18, b18 = E17.heap.size := ⟨_, rfl⟩
              rw [← hb18] at a18 ⊢
              have s39 := s29.trans' te18
              have l18 : rB < b18 ∧ wo.heap.size ≤ b18 := by have := s29.size; have := HG.out.sz; omega
              have n78 : b17 ≠ b18 := by have := block_lt a17; have := (Touch.refl [] E17).size; omega
              clear hb18
              refine wpH_call (i := 7) (o := { dst := some 106, op := Op.call { callee := Callee.value (Operand.func 52), args := #[Operand.tmp 105], argTypes := #[30] }, type := 119, pos := _, after := #[{ on := 6, ground := Ground.data }], guard := none }) (by kernel_rfl) rfl (fun K' hK => ?_)
              rw [if_pos (by rfl)]
              go_simp
              refine (HKS.out _ s39).mono ?_
              rintro e u7 ⟨ks, rfl, ok, tk⟩
              obtain ⟨ka, kc, ek⟩ := own_form ok
              subst ek
              have s40 := s39.trans' tk
              refine hK.out _ _ s40 ?_
              clear hK
              try simp only [Go.Act.put, List.setIfInBounds_toArray, List.set_cons_zero, List.set_cons_succ]
              refine wpH_call (i := 8) (o := { dst := some 107, op := Op.call { callee := Callee.value (Operand.func 51), args := #[Operand.tmp 99, Operand.tmp 101, Operand.tmp 103, Operand.tmp 106], argTypes := #[113, 29, 2, 119] }, type := 117, pos := _, after := #[{ on := 0, ground := Ground.data }, { on := 2, ground := Ground.data }, { on := 4, ground := Ground.data }, { on := 7, ground := Ground.data }, { on := 7, ground := Ground.chain }], guard := none }) (by kernel_rfl) rfl (fun K' hK => ?_)
              rw [if_pos (by rfl)]
              go_simp
              refine (HEN.out _ (keysL L) _ _ (by have := HLL.out; simpa [keysL] using this) (own_touch ok (Touch.refl [] u7) (fun _ _ e => by cases e))).mono ?_
              rintro e u8 ⟨e1, he1, hq1, te⟩
              rw [← HY.out] at he1 hq1
              unfold rv nv at he1
              subst he1
              have s41 := s40.trans' te
              refine hK.out _ _ s41 ?_
              clear hK
              try simp only [Go.Act.put, List.setIfInBounds_toArray, List.set_cons_zero, List.set_cons_succ]
              refine wpH_take (i := 9) (v := (.tuple #[(.agg #[.string s, .int .i64 y.at_, .int .i64 y.er]), (.agg #[.int .u16 e1.1.1, .string e1.1.2, .int .i64 e1.2.1.1, .int .i64 e1.2.1.2.1, .int .i64 e1.2.1.2.2.1, .int .i64 e1.2.1.2.2.2, .int .i64 e1.2.2])])) (some 98) rfl rfl (by kernel_rfl) (by kernel_rfl) (by kernel_rfl) (fun _ _ _ h => h) (Or.inl ⟨by rfl, fun w' hS => (by go_simp)⟩) s41 ?_
              try simp only [Go.Act.put, List.setIfInBounds_toArray, List.set_cons_zero, List.set_cons_succ]
              refine wpH_take (i := 10) (v := (.agg #[.string s, .int .i64 y.at_, .int .i64 y.er])) (some 108) rfl rfl (by kernel_rfl) (by kernel_rfl) (by kernel_rfl) (fun _ _ _ h => h) (Or.inl ⟨by rfl, fun w' hS => (by go_simp)⟩) s41 ?_
              try simp only [Go.Act.put, List.setIfInBounds_toArray, List.set_cons_zero, List.set_cons_succ]
              refine wpH_take (i := 11) (v := (.agg #[.int .u16 e1.1.1, .string e1.1.2, .int .i64 e1.2.1.1, .int .i64 e1.2.1.2.1, .int .i64 e1.2.1.2.2.1, .int .i64 e1.2.1.2.2.2, .int .i64 e1.2.2])) (some 109) rfl rfl (by kernel_rfl) (by kernel_rfl) (by kernel_rfl) (fun _ _ _ h => h) (Or.inl ⟨by rfl, fun w' hS => (by go_simp)⟩) s41 ?_
              try simp only [Go.Act.put, List.setIfInBounds_toArray, List.set_cons_zero, List.set_cons_succ]
              refine wpH_call (i := 14) (o := { dst := none, op := Op.store 113 (Operand.tmp 17) (Operand.tmp 108), type := 0, pos := _, after := #[{ on := 12, ground := Ground.data }, { on := 10, ground := Ground.data }, { on := 8, ground := Ground.chain }, { on := 0, ground := Ground.phase }, { on := 1, ground := Ground.phase }, { on := 2, ground := Ground.phase }, { on := 3, ground := Ground.phase }, { on := 4, ground := Ground.phase }, { on := 5, ground := Ground.phase }, { on := 6, ground := Ground.phase }, { on := 7, ground := Ground.phase }, { on := 8, ground := Ground.phase }, { on := 9, ground := Ground.phase }, { on := 10, ground := Ground.phase }, { on := 11, ground := Ground.textOnly Departure.lateStores }, { on := 12, ground := Ground.phase }, { on := 13, ground := Ground.phase }], guard := none }) (by kernel_rfl) rfl (fun K' hK => ?_)
              rw [if_pos (by rfl)]
              have g17 := ((((Touch.refl [] E17).trans' te18).trans' tk).trans' te).keep a17 (by simp)
              have m0 := cell_of (n := 0) g17 rfl
              have m1 := cell_of (n := 1) g17 rfl
              have m2 := cell_of (n := 2) g17 rfl
              have f0 := froz_at g17 0
              have f1 := froz_at g17 1
              have f2 := froz_at g17 2
              go_simp
              clear m0 m1 m2 f0 f1 f2
              obtain ⟨F1, hF1⟩ : ∃ F1, F1 = (((u8).setCell ⟨b17, 0, none⟩ (.string s)).setCell ⟨b17, 1, none⟩ (.int .i64 y.at_)).setCell ⟨b17, 2, none⟩ (.int .i64 y.er) := ⟨_, rfl⟩
              rw [← hF1]
              have tF1 : Touch [b17] u8 F1 := by rw [hF1]; exact ((((Touch.refl [b17] u8).setCell (p := ⟨b17, 0, none⟩) (Or.inl (by simp)) (.string s)).setCell (p := ⟨b17, 1, none⟩) (Or.inl (by simp)) (.int .i64 y.at_)).setCell (p := ⟨b17, 2, none⟩) (Or.inl (by simp)) (.int .i64 y.er))
              have h17 : F1.heap[b17]? = some (.cells #[.string s, .int .i64 y.at_, .int .i64 y.er] 113 (0, 0)) := by rw [hF1]; exact (bset (i := 2) (bset (i := 1) (bset (i := 0) g17 (.string s)) (.int .i64 y.at_)) (.int .i64 y.er))
              have g18 := tF1.keep ((((Touch.refl [] E18).trans' tk).trans' te).keep a18 (by simp)) (by simpa using n78.symm)
              clear hF1
              have s42 := s41.trans tF1 (fun k hk => by simp at hk; exact Or.inr (by rw [hk]; exact l17.2))
              refine hK.out _ _ s42 ?_
              clear hK
              try simp only [Go.Act.put, List.setIfInBounds_toArray, List.set_cons_zero, List.set_cons_succ]
              refine wpH_call (i := 15) (o := { dst := none, op := Op.store 88 (Operand.tmp 18) (Operand.tmp 109), type := 0, pos := _, after := #[{ on := 13, ground := Ground.data }, { on := 11, ground := Ground.data }, { on := 14, ground := Ground.chain }, { on := 0, ground := Ground.phase }, { on := 1, ground := Ground.phase }, { on := 2, ground := Ground.phase }, { on := 3, ground := Ground.phase }, { on := 4, ground := Ground.phase }, { on := 5, ground := Ground.phase }, { on := 6, ground := Ground.phase }, { on := 7, ground := Ground.phase }, { on := 8, ground := Ground.phase }, { on := 9, ground := Ground.phase }, { on := 10, ground := Ground.phase }, { on := 11, ground := Ground.phase }, { on := 12, ground := Ground.phase }, { on := 13, ground := Ground.phase }, { on := 14, ground := Ground.phase }], guard := none }) (by kernel_rfl) rfl (fun K' hK => ?_)
              rw [if_pos (by rfl)]
              have m0 := cell_of (n := 0) g18 rfl
              have m1 := cell_of (n := 1) g18 rfl
              have m2 := cell_of (n := 2) g18 rfl
              have m3 := cell_of (n := 3) g18 rfl
              have m4 := cell_of (n := 4) g18 rfl
              have m5 := cell_of (n := 5) g18 rfl
              have m6 := cell_of (n := 6) g18 rfl
              have f0 := froz_at g18 0
              have f1 := froz_at g18 1
              have f2 := froz_at g18 2
              have f3 := froz_at g18 3
              have f4 := froz_at g18 4
              have f5 := froz_at g18 5
              have f6 := froz_at g18 6
              go_simp
              clear m0 m1 m2 m3 m4 m5 m6 f0 f1 f2 f3 f4 f5 f6
              obtain ⟨F2, hF2⟩ : ∃ F2, F2 = (((((((F1).setCell ⟨b18, 0, none⟩ (.int .u16 e1.1.1)).setCell ⟨b18, 1, none⟩ (.string e1.1.2)).setCell ⟨b18, 2, none⟩ (.int .i64 e1.2.1.1)).setCell ⟨b18, 3, none⟩ (.int .i64 e1.2.1.2.1)).setCell ⟨b18, 4, none⟩ (.int .i64 e1.2.1.2.2.1)).setCell ⟨b18, 5, none⟩ (.int .i64 e1.2.1.2.2.2)).setCell ⟨b18, 6, none⟩ (.int .i64 e1.2.2) := ⟨_, rfl⟩
              rw [← hF2]
              have tF2 : Touch [b18] F1 F2 := by rw [hF2]; exact ((((((((Touch.refl [b18] F1).setCell (p := ⟨b18, 0, none⟩) (Or.inl (by simp)) (.int .u16 e1.1.1)).setCell (p := ⟨b18, 1, none⟩) (Or.inl (by simp)) (.string e1.1.2)).setCell (p := ⟨b18, 2, none⟩) (Or.inl (by simp)) (.int .i64 e1.2.1.1)).setCell (p := ⟨b18, 3, none⟩) (Or.inl (by simp)) (.int .i64 e1.2.1.2.1)).setCell (p := ⟨b18, 4, none⟩) (Or.inl (by simp)) (.int .i64 e1.2.1.2.2.1)).setCell (p := ⟨b18, 5, none⟩) (Or.inl (by simp)) (.int .i64 e1.2.1.2.2.2)).setCell (p := ⟨b18, 6, none⟩) (Or.inl (by simp)) (.int .i64 e1.2.2))
              have h18 : F2.heap[b18]? = some (.cells #[.int .u16 e1.1.1, .string e1.1.2, .int .i64 e1.2.1.1, .int .i64 e1.2.1.2.1, .int .i64 e1.2.1.2.2.1, .int .i64 e1.2.1.2.2.2, .int .i64 e1.2.2] 88 (0, 0)) := by rw [hF2]; exact (bset (i := 6) (bset (i := 5) (bset (i := 4) (bset (i := 3) (bset (i := 2) (bset (i := 1) (bset (i := 0) g18 (.int .u16 e1.1.1)) (.string e1.1.2)) (.int .i64 e1.2.1.1)) (.int .i64 e1.2.1.2.1)) (.int .i64 e1.2.1.2.2.1)) (.int .i64 e1.2.1.2.2.2)) (.int .i64 e1.2.2))
              have h17' := tF2.keep h17 (by simpa using n78)
              clear hF2
              have s43 := s42.trans tF2 (fun k hk => by simp at hk; exact Or.inr (by rw [hk]; exact l18.2))
              refine hK.out _ _ s43 ?_
              clear hK
              try simp only [Go.Act.put, List.setIfInBounds_toArray, List.set_cons_zero, List.set_cons_succ]
              refine wpAnyH_done (by kernel_rfl) ?_ _
              go_wp2_with fail
              go_meet
              case rel => exact ⟨b17, b18, e1, rfl, rfl, hid ⟨HG.out.b.call s43, own_touch HG.out.o s43 (fun _ _ e => by cases e), by have := s43.size; have := HG.out.sz; omega, l17.1, l18.1, h17', h18, HY.out, hq1⟩⟩
            exact AllH.nil
          refine AllH.cons (o := { dst := some 18, op := Op.alloc 88, type := 0, pos := _, after := #[], guard := none }) rfl (fun K' hK => ?_) ?_
          · rw [if_pos (by rfl)]
            go_simp
            refine hK.out _ _ (s0.alloc _) ?_
            clear hK
            try simp only [Go.Act.put, List.setIfInBounds_toArray, List.set_cons_zero, List.set_cons_succ]
            obtain ⟨E18, hE18⟩ : ∃ E18, E18 = V0.alloc (.cells #[.int .u16 0, .string ⟨#[]⟩, .int .i64 0, .int .i64 0, .int .i64 0, .int .i64 0, .int .i64 0] 88) := ⟨_, rfl⟩
            have te18 : Touch [] V0 E18 := by rw [hE18]; exact (Touch.refl _ _).alloc _
            have a18 : E18.heap[V0.heap.size]? = some (.cells #[.int .u16 0, .string ⟨#[]⟩, .int .i64 0, .int .i64 0, .int .i64 0, .int .i64 0, .int .i64 0] 88 (0, 0)) := by rw [hE18]; exact heap_alloc_new V0 _
            rw [← hE18]
            clear hE18
            obtain ⟨b18, hb18⟩ : ∃ b18, b18 = V0.heap.size := ⟨_, rfl⟩
            rw [← hb18] at a18 ⊢
            have s44 := s0.trans' te18
            have l18 : rB < b18 ∧ wo.heap.size ≤ b18 := by have := s0.size; have := HG.out.sz; omega
            clear hb18
            refine wpH_ready (rs := [7, 12]) (by kernel_rfl) (by simp) ?_
            refine AllH.cons (o := { dst := some 106, op := Op.call { callee := Callee.value (Operand.func 52), args := #[Operand.tmp 105], argTypes := #[30] }, type := 119, pos := _, after := #[{ on := 6, ground := Ground.data }], guard := none }) rfl (fun K' hK => ?_) ?_
            · rw [if_pos (by rfl)]
              go_simp
              refine (HKS.out _ s44).mono ?_
              rintro e u7 ⟨ks, rfl, ok, tk⟩
              obtain ⟨ka, kc, ek⟩ := own_form ok
              subst ek
              have s45 := s44.trans' tk
              refine hK.out _ _ s45 ?_
              clear hK
              try simp only [Go.Act.put, List.setIfInBounds_toArray, List.set_cons_zero, List.set_cons_succ]
              refine wpH_ready (rs := [8, 12]) (by kernel_rfl) (by simp) ?_
              refine AllH.cons (o := { dst := some 107, op := Op.call { callee := Callee.value (Operand.func 51), args := #[Operand.tmp 99, Operand.tmp 101, Operand.tmp 103, Operand.tmp 106], argTypes := #[113, 29, 2, 119] }, type := 117, pos := _, after := #[{ on := 0, ground := Ground.data }, { on := 2, ground := Ground.data }, { on := 4, ground := Ground.data }, { on := 7, ground := Ground.data }, { on := 7, ground := Ground.chain }], guard := none }) rfl (fun K' hK => ?_) ?_
              · rw [if_pos (by rfl)]
                go_simp
                refine (HEN.out _ (keysL L) _ _ (by have := HLL.out; simpa [keysL] using this) (own_touch ok (Touch.refl [] u7) (fun _ _ e => by cases e))).mono ?_
                rintro e u8 ⟨e1, he1, hq1, te⟩
                rw [← HY.out] at he1 hq1
                unfold rv nv at he1
                subst he1
                have s46 := s45.trans' te
                refine hK.out _ _ s46 ?_
                clear hK
                try simp only [Go.Act.put, List.setIfInBounds_toArray, List.set_cons_zero, List.set_cons_succ]
                refine wpH_take (i := 9) (v := (.tuple #[(.agg #[.string s, .int .i64 y.at_, .int .i64 y.er]), (.agg #[.int .u16 e1.1.1, .string e1.1.2, .int .i64 e1.2.1.1, .int .i64 e1.2.1.2.1, .int .i64 e1.2.1.2.2.1, .int .i64 e1.2.1.2.2.2, .int .i64 e1.2.2])])) (some 98) rfl rfl (by kernel_rfl) (by kernel_rfl) (by kernel_rfl) (fun _ _ _ h => h) (Or.inl ⟨by rfl, fun w' hS => (by go_simp)⟩) s46 ?_
                try simp only [Go.Act.put, List.setIfInBounds_toArray, List.set_cons_zero, List.set_cons_succ]
                refine wpH_take (i := 10) (v := (.agg #[.string s, .int .i64 y.at_, .int .i64 y.er])) (some 108) rfl rfl (by kernel_rfl) (by kernel_rfl) (by kernel_rfl) (fun _ _ _ h => h) (Or.inl ⟨by rfl, fun w' hS => (by go_simp)⟩) s46 ?_
                try simp only [Go.Act.put, List.setIfInBounds_toArray, List.set_cons_zero, List.set_cons_succ]
                refine wpH_take (i := 11) (v := (.agg #[.int .u16 e1.1.1, .string e1.1.2, .int .i64 e1.2.1.1, .int .i64 e1.2.1.2.1, .int .i64 e1.2.1.2.2.1, .int .i64 e1.2.1.2.2.2, .int .i64 e1.2.2])) (some 109) rfl rfl (by kernel_rfl) (by kernel_rfl) (by kernel_rfl) (fun _ _ _ h => h) (Or.inl ⟨by rfl, fun w' hS => (by go_simp)⟩) s46 ?_
                try simp only [Go.Act.put, List.setIfInBounds_toArray, List.set_cons_zero, List.set_cons_succ]
                refine wpH_call (i := 12) (o := { dst := some 17, op := Op.alloc 113, type := 0, pos := _, after := #[], guard := none }) (by kernel_rfl) rfl (fun K' hK => ?_)
                rw [if_pos (by rfl)]
                go_simp
                refine hK.out _ _ (s46.alloc _) ?_
                clear hK
                try simp only [Go.Act.put, List.setIfInBounds_toArray, List.set_cons_zero, List.set_cons_succ]
                obtain ⟨E17, hE17⟩ : ∃ E17, E17 = u8.alloc (.cells #[.string ⟨#[]⟩, .int .i64 0, .int .i64 0] 113) := ⟨_, rfl⟩
                have te17 : Touch [] u8 E17 := by rw [hE17]; exact (Touch.refl _ _).alloc _
                have a17 : E17.heap[u8.heap.size]? = some (.cells #[.string ⟨#[]⟩, .int .i64 0, .int .i64 0] 113 (0, 0)) := by rw [hE17]; exact heap_alloc_new u8 _
                rw [← hE17]
                clear hE17
                obtain ⟨b17, hb17⟩ : ∃ b17, b17 = u8.heap.size := ⟨_, rfl⟩
                rw [← hb17] at a17 ⊢
                have s47 := s46.trans' te17
                have l17 : rB < b17 ∧ wo.heap.size ≤ b17 := by have := s46.size; have := HG.out.sz; omega
                have n78 : b17 ≠ b18 := by have := block_lt a18; have := (((Touch.refl [] E18).trans' tk).trans' te).size; omega
                clear hb17
                refine wpH_call (i := 14) (o := { dst := none, op := Op.store 113 (Operand.tmp 17) (Operand.tmp 108), type := 0, pos := _, after := #[{ on := 12, ground := Ground.data }, { on := 10, ground := Ground.data }, { on := 8, ground := Ground.chain }, { on := 0, ground := Ground.phase }, { on := 1, ground := Ground.phase }, { on := 2, ground := Ground.phase }, { on := 3, ground := Ground.phase }, { on := 4, ground := Ground.phase }, { on := 5, ground := Ground.phase }, { on := 6, ground := Ground.phase }, { on := 7, ground := Ground.phase }, { on := 8, ground := Ground.phase }, { on := 9, ground := Ground.phase }, { on := 10, ground := Ground.phase }, { on := 11, ground := Ground.textOnly Departure.lateStores }, { on := 12, ground := Ground.phase }, { on := 13, ground := Ground.phase }], guard := none }) (by kernel_rfl) rfl (fun K' hK => ?_)
                rw [if_pos (by rfl)]
                have g17 := (Touch.refl [] E17).keep a17 (by simp)
                have m0 := cell_of (n := 0) g17 rfl
                have m1 := cell_of (n := 1) g17 rfl
                have m2 := cell_of (n := 2) g17 rfl
                have f0 := froz_at g17 0
                have f1 := froz_at g17 1
                have f2 := froz_at g17 2
                go_simp
                clear m0 m1 m2 f0 f1 f2
                obtain ⟨F1, hF1⟩ : ∃ F1, F1 = (((E17).setCell ⟨b17, 0, none⟩ (.string s)).setCell ⟨b17, 1, none⟩ (.int .i64 y.at_)).setCell ⟨b17, 2, none⟩ (.int .i64 y.er) := ⟨_, rfl⟩
                rw [← hF1]
                have tF1 : Touch [b17] E17 F1 := by rw [hF1]; exact ((((Touch.refl [b17] E17).setCell (p := ⟨b17, 0, none⟩) (Or.inl (by simp)) (.string s)).setCell (p := ⟨b17, 1, none⟩) (Or.inl (by simp)) (.int .i64 y.at_)).setCell (p := ⟨b17, 2, none⟩) (Or.inl (by simp)) (.int .i64 y.er))
                have h17 : F1.heap[b17]? = some (.cells #[.string s, .int .i64 y.at_, .int .i64 y.er] 113 (0, 0)) := by rw [hF1]; exact (bset (i := 2) (bset (i := 1) (bset (i := 0) g17 (.string s)) (.int .i64 y.at_)) (.int .i64 y.er))
                have g18 := tF1.keep (((((Touch.refl [] E18).trans' tk).trans' te).trans' te17).keep a18 (by simp)) (by simpa using n78.symm)
                clear hF1
                have s48 := s47.trans tF1 (fun k hk => by simp at hk; exact Or.inr (by rw [hk]; exact l17.2))
                refine hK.out _ _ s48 ?_
                clear hK
                try simp only [Go.Act.put, List.setIfInBounds_toArray, List.set_cons_zero, List.set_cons_succ]
                refine wpH_call (i := 15) (o := { dst := none, op := Op.store 88 (Operand.tmp 18) (Operand.tmp 109), type := 0, pos := _, after := #[{ on := 13, ground := Ground.data }, { on := 11, ground := Ground.data }, { on := 14, ground := Ground.chain }, { on := 0, ground := Ground.phase }, { on := 1, ground := Ground.phase }, { on := 2, ground := Ground.phase }, { on := 3, ground := Ground.phase }, { on := 4, ground := Ground.phase }, { on := 5, ground := Ground.phase }, { on := 6, ground := Ground.phase }, { on := 7, ground := Ground.phase }, { on := 8, ground := Ground.phase }, { on := 9, ground := Ground.phase }, { on := 10, ground := Ground.phase }, { on := 11, ground := Ground.phase }, { on := 12, ground := Ground.phase }, { on := 13, ground := Ground.phase }, { on := 14, ground := Ground.phase }], guard := none }) (by kernel_rfl) rfl (fun K' hK => ?_)
                rw [if_pos (by rfl)]
                have m0 := cell_of (n := 0) g18 rfl
                have m1 := cell_of (n := 1) g18 rfl
                have m2 := cell_of (n := 2) g18 rfl
                have m3 := cell_of (n := 3) g18 rfl
                have m4 := cell_of (n := 4) g18 rfl
                have m5 := cell_of (n := 5) g18 rfl
                have m6 := cell_of (n := 6) g18 rfl
                have f0 := froz_at g18 0
                have f1 := froz_at g18 1
                have f2 := froz_at g18 2
                have f3 := froz_at g18 3
                have f4 := froz_at g18 4
                have f5 := froz_at g18 5
                have f6 := froz_at g18 6
                go_simp
                clear m0 m1 m2 m3 m4 m5 m6 f0 f1 f2 f3 f4 f5 f6
                obtain ⟨F2, hF2⟩ : ∃ F2, F2 = (((((((F1).setCell ⟨b18, 0, none⟩ (.int .u16 e1.1.1)).setCell ⟨b18, 1, none⟩ (.string e1.1.2)).setCell ⟨b18, 2, none⟩ (.int .i64 e1.2.1.1)).setCell ⟨b18, 3, none⟩ (.int .i64 e1.2.1.2.1)).setCell ⟨b18, 4, none⟩ (.int .i64 e1.2.1.2.2.1)).setCell ⟨b18, 5, none⟩ (.int .i64 e1.2.1.2.2.2)).setCell ⟨b18, 6, none⟩ (.int .i64 e1.2.2) := ⟨_, rfl⟩
                rw [← hF2]
                have tF2 : Touch [b18] F1 F2 := by rw [hF2]; exact ((((((((Touch.refl [b18] F1).setCell (p := ⟨b18, 0, none⟩) (Or.inl (by simp)) (.int .u16 e1.1.1)).setCell (p := ⟨b18, 1, none⟩) (Or.inl (by simp)) (.string e1.1.2)).setCell (p := ⟨b18, 2, none⟩) (Or.inl (by simp)) (.int .i64 e1.2.1.1)).setCell (p := ⟨b18, 3, none⟩) (Or.inl (by simp)) (.int .i64 e1.2.1.2.1)).setCell (p := ⟨b18, 4, none⟩) (Or.inl (by simp)) (.int .i64 e1.2.1.2.2.1)).setCell (p := ⟨b18, 5, none⟩) (Or.inl (by simp)) (.int .i64 e1.2.1.2.2.2)).setCell (p := ⟨b18, 6, none⟩) (Or.inl (by simp)) (.int .i64 e1.2.2))
                have h18 : F2.heap[b18]? = some (.cells #[.int .u16 e1.1.1, .string e1.1.2, .int .i64 e1.2.1.1, .int .i64 e1.2.1.2.1, .int .i64 e1.2.1.2.2.1, .int .i64 e1.2.1.2.2.2, .int .i64 e1.2.2] 88 (0, 0)) := by rw [hF2]; exact (bset (i := 6) (bset (i := 5) (bset (i := 4) (bset (i := 3) (bset (i := 2) (bset (i := 1) (bset (i := 0) g18 (.int .u16 e1.1.1)) (.string e1.1.2)) (.int .i64 e1.2.1.1)) (.int .i64 e1.2.1.2.1)) (.int .i64 e1.2.1.2.2.1)) (.int .i64 e1.2.1.2.2.2)) (.int .i64 e1.2.2))
                have h17' := tF2.keep h17 (by simpa using n78)
                clear hF2
                have s49 := s48.trans tF2 (fun k hk => by simp at hk; exact Or.inr (by rw [hk]; exact l18.2))
                refine hK.out _ _ s49 ?_
                clear hK
                try simp only [Go.Act.put, List.setIfInBounds_toArray, List.set_cons_zero, List.set_cons_succ]
                refine wpAnyH_done (by kernel_rfl) ?_ _
                go_wp2_with fail
                go_meet
                case rel => exact ⟨b17, b18, e1, rfl, rfl, hid ⟨HG.out.b.call s49, own_touch HG.out.o s49 (fun _ _ e => by cases e), by have := s49.size; have := HG.out.sz; omega, l17.1, l18.1, h17', h18, HY.out, hq1⟩⟩
              refine AllH.cons (o := { dst := some 17, op := Op.alloc 113, type := 0, pos := _, after := #[], guard := none }) rfl (fun K' hK => ?_) ?_
              · rw [if_pos (by rfl)]
                go_simp
                refine hK.out _ _ (s45.alloc _) ?_
                clear hK
                try simp only [Go.Act.put, List.setIfInBounds_toArray, List.set_cons_zero, List.set_cons_succ]
                obtain ⟨E17, hE17⟩ : ∃ E17, E17 = u7.alloc (.cells #[.string ⟨#[]⟩, .int .i64 0, .int .i64 0] 113) := ⟨_, rfl⟩
                have te17 : Touch [] u7 E17 := by rw [hE17]; exact (Touch.refl _ _).alloc _
                have a17 : E17.heap[u7.heap.size]? = some (.cells #[.string ⟨#[]⟩, .int .i64 0, .int .i64 0] 113 (0, 0)) := by rw [hE17]; exact heap_alloc_new u7 _
                rw [← hE17]
                clear hE17
                obtain ⟨b17, hb17⟩ : ∃ b17, b17 = u7.heap.size := ⟨_, rfl⟩
                rw [← hb17] at a17 ⊢
                have s50 := s45.trans' te17
                have l17 : rB < b17 ∧ wo.heap.size ≤ b17 := by have := s45.size; have := HG.out.sz; omega
                have n78 : b17 ≠ b18 := by have := block_lt a18; have := ((Touch.refl [] E18).trans' tk).size; omega
                clear hb17
                refine wpH_call (i := 8) (o := { dst := some 107, op := Op.call { callee := Callee.value (Operand.func 51), args := #[Operand.tmp 99, Operand.tmp 101, Operand.tmp 103, Operand.tmp 106], argTypes := #[113, 29, 2, 119] }, type := 117, pos := _, after := #[{ on := 0, ground := Ground.data }, { on := 2, ground := Ground.data }, { on := 4, ground := Ground.data }, { on := 7, ground := Ground.data }, { on := 7, ground := Ground.chain }], guard := none }) (by kernel_rfl) rfl (fun K' hK => ?_)
                rw [if_pos (by rfl)]
                go_simp
                refine (HEN.out _ (keysL L) _ _ (by have := HLL.out; simpa [keysL] using this) (own_touch ok ((Touch.refl [] u7).trans' te17) (fun _ _ e => by cases e))).mono ?_
                rintro e u8 ⟨e1, he1, hq1, te⟩
                rw [← HY.out] at he1 hq1
                unfold rv nv at he1
                subst he1
                have s51 := s50.trans' te
                refine hK.out _ _ s51 ?_
                clear hK
                try simp only [Go.Act.put, List.setIfInBounds_toArray, List.set_cons_zero, List.set_cons_succ]
                refine wpH_take (i := 9) (v := (.tuple #[(.agg #[.string s, .int .i64 y.at_, .int .i64 y.er]), (.agg #[.int .u16 e1.1.1, .string e1.1.2, .int .i64 e1.2.1.1, .int .i64 e1.2.1.2.1, .int .i64 e1.2.1.2.2.1, .int .i64 e1.2.1.2.2.2, .int .i64 e1.2.2])])) (some 98) rfl rfl (by kernel_rfl) (by kernel_rfl) (by kernel_rfl) (fun _ _ _ h => h) (Or.inl ⟨by rfl, fun w' hS => (by go_simp)⟩) s51 ?_
                try simp only [Go.Act.put, List.setIfInBounds_toArray, List.set_cons_zero, List.set_cons_succ]
                refine wpH_take (i := 10) (v := (.agg #[.string s, .int .i64 y.at_, .int .i64 y.er])) (some 108) rfl rfl (by kernel_rfl) (by kernel_rfl) (by kernel_rfl) (fun _ _ _ h => h) (Or.inl ⟨by rfl, fun w' hS => (by go_simp)⟩) s51 ?_
                try simp only [Go.Act.put, List.setIfInBounds_toArray, List.set_cons_zero, List.set_cons_succ]
                refine wpH_take (i := 11) (v := (.agg #[.int .u16 e1.1.1, .string e1.1.2, .int .i64 e1.2.1.1, .int .i64 e1.2.1.2.1, .int .i64 e1.2.1.2.2.1, .int .i64 e1.2.1.2.2.2, .int .i64 e1.2.2])) (some 109) rfl rfl (by kernel_rfl) (by kernel_rfl) (by kernel_rfl) (fun _ _ _ h => h) (Or.inl ⟨by rfl, fun w' hS => (by go_simp)⟩) s51 ?_
                try simp only [Go.Act.put, List.setIfInBounds_toArray, List.set_cons_zero, List.set_cons_succ]
                refine wpH_call (i := 14) (o := { dst := none, op := Op.store 113 (Operand.tmp 17) (Operand.tmp 108), type := 0, pos := _, after := #[{ on := 12, ground := Ground.data }, { on := 10, ground := Ground.data }, { on := 8, ground := Ground.chain }, { on := 0, ground := Ground.phase }, { on := 1, ground := Ground.phase }, { on := 2, ground := Ground.phase }, { on := 3, ground := Ground.phase }, { on := 4, ground := Ground.phase }, { on := 5, ground := Ground.phase }, { on := 6, ground := Ground.phase }, { on := 7, ground := Ground.phase }, { on := 8, ground := Ground.phase }, { on := 9, ground := Ground.phase }, { on := 10, ground := Ground.phase }, { on := 11, ground := Ground.textOnly Departure.lateStores }, { on := 12, ground := Ground.phase }, { on := 13, ground := Ground.phase }], guard := none }) (by kernel_rfl) rfl (fun K' hK => ?_)
                rw [if_pos (by rfl)]
                have g17 := ((Touch.refl [] E17).trans' te).keep a17 (by simp)
                have m0 := cell_of (n := 0) g17 rfl
                have m1 := cell_of (n := 1) g17 rfl
                have m2 := cell_of (n := 2) g17 rfl
                have f0 := froz_at g17 0
                have f1 := froz_at g17 1
                have f2 := froz_at g17 2
                go_simp
                clear m0 m1 m2 f0 f1 f2
                obtain ⟨F1, hF1⟩ : ∃ F1, F1 = (((u8).setCell ⟨b17, 0, none⟩ (.string s)).setCell ⟨b17, 1, none⟩ (.int .i64 y.at_)).setCell ⟨b17, 2, none⟩ (.int .i64 y.er) := ⟨_, rfl⟩
                rw [← hF1]
                have tF1 : Touch [b17] u8 F1 := by rw [hF1]; exact ((((Touch.refl [b17] u8).setCell (p := ⟨b17, 0, none⟩) (Or.inl (by simp)) (.string s)).setCell (p := ⟨b17, 1, none⟩) (Or.inl (by simp)) (.int .i64 y.at_)).setCell (p := ⟨b17, 2, none⟩) (Or.inl (by simp)) (.int .i64 y.er))
                have h17 : F1.heap[b17]? = some (.cells #[.string s, .int .i64 y.at_, .int .i64 y.er] 113 (0, 0)) := by rw [hF1]; exact (bset (i := 2) (bset (i := 1) (bset (i := 0) g17 (.string s)) (.int .i64 y.at_)) (.int .i64 y.er))
                have g18 := tF1.keep (((((Touch.refl [] E18).trans' tk).trans' te17).trans' te).keep a18 (by simp)) (by simpa using n78.symm)
                clear hF1
                have s52 := s51.trans tF1 (fun k hk => by simp at hk; exact Or.inr (by rw [hk]; exact l17.2))
                refine hK.out _ _ s52 ?_
                clear hK
                try simp only [Go.Act.put, List.setIfInBounds_toArray, List.set_cons_zero, List.set_cons_succ]
                refine wpH_call (i := 15) (o := { dst := none, op := Op.store 88 (Operand.tmp 18) (Operand.tmp 109), type := 0, pos := _, after := #[{ on := 13, ground := Ground.data }, { on := 11, ground := Ground.data }, { on := 14, ground := Ground.chain }, { on := 0, ground := Ground.phase }, { on := 1, ground := Ground.phase }, { on := 2, ground := Ground.phase }, { on := 3, ground := Ground.phase }, { on := 4, ground := Ground.phase }, { on := 5, ground := Ground.phase }, { on := 6, ground := Ground.phase }, { on := 7, ground := Ground.phase }, { on := 8, ground := Ground.phase }, { on := 9, ground := Ground.phase }, { on := 10, ground := Ground.phase }, { on := 11, ground := Ground.phase }, { on := 12, ground := Ground.phase }, { on := 13, ground := Ground.phase }, { on := 14, ground := Ground.phase }], guard := none }) (by kernel_rfl) rfl (fun K' hK => ?_)
                rw [if_pos (by rfl)]
                have m0 := cell_of (n := 0) g18 rfl
                have m1 := cell_of (n := 1) g18 rfl
                have m2 := cell_of (n := 2) g18 rfl
                have m3 := cell_of (n := 3) g18 rfl
                have m4 := cell_of (n := 4) g18 rfl
                have m5 := cell_of (n := 5) g18 rfl
                have m6 := cell_of (n := 6) g18 rfl
                have f0 := froz_at g18 0
                have f1 := froz_at g18 1
                have f2 := froz_at g18 2
                have f3 := froz_at g18 3
                have f4 := froz_at g18 4
                have f5 := froz_at g18 5
                have f6 := froz_at g18 6
                go_simp
                clear m0 m1 m2 m3 m4 m5 m6 f0 f1 f2 f3 f4 f5 f6
                obtain ⟨F2, hF2⟩ : ∃ F2, F2 = (((((((F1).setCell ⟨b18, 0, none⟩ (.int .u16 e1.1.1)).setCell ⟨b18, 1, none⟩ (.string e1.1.2)).setCell ⟨b18, 2, none⟩ (.int .i64 e1.2.1.1)).setCell ⟨b18, 3, none⟩ (.int .i64 e1.2.1.2.1)).setCell ⟨b18, 4, none⟩ (.int .i64 e1.2.1.2.2.1)).setCell ⟨b18, 5, none⟩ (.int .i64 e1.2.1.2.2.2)).setCell ⟨b18, 6, none⟩ (.int .i64 e1.2.2) := ⟨_, rfl⟩
                rw [← hF2]
                have tF2 : Touch [b18] F1 F2 := by rw [hF2]; exact ((((((((Touch.refl [b18] F1).setCell (p := ⟨b18, 0, none⟩) (Or.inl (by simp)) (.int .u16 e1.1.1)).setCell (p := ⟨b18, 1, none⟩) (Or.inl (by simp)) (.string e1.1.2)).setCell (p := ⟨b18, 2, none⟩) (Or.inl (by simp)) (.int .i64 e1.2.1.1)).setCell (p := ⟨b18, 3, none⟩) (Or.inl (by simp)) (.int .i64 e1.2.1.2.1)).setCell (p := ⟨b18, 4, none⟩) (Or.inl (by simp)) (.int .i64 e1.2.1.2.2.1)).setCell (p := ⟨b18, 5, none⟩) (Or.inl (by simp)) (.int .i64 e1.2.1.2.2.2)).setCell (p := ⟨b18, 6, none⟩) (Or.inl (by simp)) (.int .i64 e1.2.2))
                have h18 : F2.heap[b18]? = some (.cells #[.int .u16 e1.1.1, .string e1.1.2, .int .i64 e1.2.1.1, .int .i64 e1.2.1.2.1, .int .i64 e1.2.1.2.2.1, .int .i64 e1.2.1.2.2.2, .int .i64 e1.2.2] 88 (0, 0)) := by rw [hF2]; exact (bset (i := 6) (bset (i := 5) (bset (i := 4) (bset (i := 3) (bset (i := 2) (bset (i := 1) (bset (i := 0) g18 (.int .u16 e1.1.1)) (.string e1.1.2)) (.int .i64 e1.2.1.1)) (.int .i64 e1.2.1.2.1)) (.int .i64 e1.2.1.2.2.1)) (.int .i64 e1.2.1.2.2.2)) (.int .i64 e1.2.2))
                have h17' := tF2.keep h17 (by simpa using n78)
                clear hF2
                have s53 := s52.trans tF2 (fun k hk => by simp at hk; exact Or.inr (by rw [hk]; exact l18.2))
                refine hK.out _ _ s53 ?_
                clear hK
                try simp only [Go.Act.put, List.setIfInBounds_toArray, List.set_cons_zero, List.set_cons_succ]
                refine wpAnyH_done (by kernel_rfl) ?_ _
                go_wp2_with fail
                go_meet
                case rel => exact ⟨b17, b18, e1, rfl, rfl, hid ⟨HG.out.b.call s53, own_touch HG.out.o s53 (fun _ _ e => by cases e), by have := s53.size; have := HG.out.sz; omega, l17.1, l18.1, h17', h18, HY.out, hq1⟩⟩
              exact AllH.nil
            refine AllH.cons (o := { dst := some 17, op := Op.alloc 113, type := 0, pos := _, after := #[], guard := none }) rfl (fun K' hK => ?_) ?_
            · rw [if_pos (by rfl)]
              go_simp
              refine hK.out _ _ (s44.alloc _) ?_
              clear hK
              try simp only [Go.Act.put, List.setIfInBounds_toArray, List.set_cons_zero, List.set_cons_succ]
              obtain ⟨E17, hE17⟩ : ∃ E17, E17 = E18.alloc (.cells #[.string ⟨#[]⟩, .int .i64 0, .int .i64 0] 113) := ⟨_, rfl⟩
              have te17 : Touch [] E18 E17 := by rw [hE17]; exact (Touch.refl _ _).alloc _
              have a17 : E17.heap[E18.heap.size]? = some (.cells #[.string ⟨#[]⟩, .int .i64 0, .int .i64 0] 113 (0, 0)) := by rw [hE17]; exact heap_alloc_new E18 _
              rw [← hE17]
              clear hE17
              obtain ⟨b17, hb17⟩ : ∃ b17, b17 = E18.heap.size := ⟨_, rfl⟩
              rw [← hb17] at a17 ⊢
              have s54 := s44.trans' te17
              have l17 : rB < b17 ∧ wo.heap.size ≤ b17 := by have := s44.size; have := HG.out.sz; omega
              have n78 : b17 ≠ b18 := by have := block_lt a18; have := (Touch.refl [] E18).size; omega
              clear hb17
              refine wpH_call (i := 7) (o := { dst := some 106, op := Op.call { callee := Callee.value (Operand.func 52), args := #[Operand.tmp 105], argTypes := #[30] }, type := 119, pos := _, after := #[{ on := 6, ground := Ground.data }], guard := none }) (by kernel_rfl) rfl (fun K' hK => ?_)
              rw [if_pos (by rfl)]
              go_simp
              refine (HKS.out _ s54).mono ?_
              rintro e u7 ⟨ks, rfl, ok, tk⟩
              obtain ⟨ka, kc, ek⟩ := own_form ok
              subst ek
              have s55 := s54.trans' tk
              refine hK.out _ _ s55 ?_
              clear hK
              try simp only [Go.Act.put, List.setIfInBounds_toArray, List.set_cons_zero, List.set_cons_succ]
              refine wpH_call (i := 8) (o := { dst := some 107, op := Op.call { callee := Callee.value (Operand.func 51), args := #[Operand.tmp 99, Operand.tmp 101, Operand.tmp 103, Operand.tmp 106], argTypes := #[113, 29, 2, 119] }, type := 117, pos := _, after := #[{ on := 0, ground := Ground.data }, { on := 2, ground := Ground.data }, { on := 4, ground := Ground.data }, { on := 7, ground := Ground.data }, { on := 7, ground := Ground.chain }], guard := none }) (by kernel_rfl) rfl (fun K' hK => ?_)
              rw [if_pos (by rfl)]
              go_simp
              refine (HEN.out _ (keysL L) _ _ (by have := HLL.out; simpa [keysL] using this) (own_touch ok (Touch.refl [] u7) (fun _ _ e => by cases e))).mono ?_
              rintro e u8 ⟨e1, he1, hq1, te⟩
              rw [← HY.out] at he1 hq1
              unfold rv nv at he1
              subst he1
              have s56 := s55.trans' te
              refine hK.out _ _ s56 ?_
              clear hK
              try simp only [Go.Act.put, List.setIfInBounds_toArray, List.set_cons_zero, List.set_cons_succ]
              refine wpH_take (i := 9) (v := (.tuple #[(.agg #[.string s, .int .i64 y.at_, .int .i64 y.er]), (.agg #[.int .u16 e1.1.1, .string e1.1.2, .int .i64 e1.2.1.1, .int .i64 e1.2.1.2.1, .int .i64 e1.2.1.2.2.1, .int .i64 e1.2.1.2.2.2, .int .i64 e1.2.2])])) (some 98) rfl rfl (by kernel_rfl) (by kernel_rfl) (by kernel_rfl) (fun _ _ _ h => h) (Or.inl ⟨by rfl, fun w' hS => (by go_simp)⟩) s56 ?_
              try simp only [Go.Act.put, List.setIfInBounds_toArray, List.set_cons_zero, List.set_cons_succ]
              refine wpH_take (i := 10) (v := (.agg #[.string s, .int .i64 y.at_, .int .i64 y.er])) (some 108) rfl rfl (by kernel_rfl) (by kernel_rfl) (by kernel_rfl) (fun _ _ _ h => h) (Or.inl ⟨by rfl, fun w' hS => (by go_simp)⟩) s56 ?_
              try simp only [Go.Act.put, List.setIfInBounds_toArray, List.set_cons_zero, List.set_cons_succ]
              refine wpH_take (i := 11) (v := (.agg #[.int .u16 e1.1.1, .string e1.1.2, .int .i64 e1.2.1.1, .int .i64 e1.2.1.2.1, .int .i64 e1.2.1.2.2.1, .int .i64 e1.2.1.2.2.2, .int .i64 e1.2.2])) (some 109) rfl rfl (by kernel_rfl) (by kernel_rfl) (by kernel_rfl) (fun _ _ _ h => h) (Or.inl ⟨by rfl, fun w' hS => (by go_simp)⟩) s56 ?_
              try simp only [Go.Act.put, List.setIfInBounds_toArray, List.set_cons_zero, List.set_cons_succ]
              refine wpH_call (i := 14) (o := { dst := none, op := Op.store 113 (Operand.tmp 17) (Operand.tmp 108), type := 0, pos := _, after := #[{ on := 12, ground := Ground.data }, { on := 10, ground := Ground.data }, { on := 8, ground := Ground.chain }, { on := 0, ground := Ground.phase }, { on := 1, ground := Ground.phase }, { on := 2, ground := Ground.phase }, { on := 3, ground := Ground.phase }, { on := 4, ground := Ground.phase }, { on := 5, ground := Ground.phase }, { on := 6, ground := Ground.phase }, { on := 7, ground := Ground.phase }, { on := 8, ground := Ground.phase }, { on := 9, ground := Ground.phase }, { on := 10, ground := Ground.phase }, { on := 11, ground := Ground.textOnly Departure.lateStores }, { on := 12, ground := Ground.phase }, { on := 13, ground := Ground.phase }], guard := none }) (by kernel_rfl) rfl (fun K' hK => ?_)
              rw [if_pos (by rfl)]
              have g17 := (((Touch.refl [] E17).trans' tk).trans' te).keep a17 (by simp)
              have m0 := cell_of (n := 0) g17 rfl
              have m1 := cell_of (n := 1) g17 rfl
              have m2 := cell_of (n := 2) g17 rfl
              have f0 := froz_at g17 0
              have f1 := froz_at g17 1
              have f2 := froz_at g17 2
              go_simp
              clear m0 m1 m2 f0 f1 f2
              obtain ⟨F1, hF1⟩ : ∃ F1, F1 = (((u8).setCell ⟨b17, 0, none⟩ (.string s)).setCell ⟨b17, 1, none⟩ (.int .i64 y.at_)).setCell ⟨b17, 2, none⟩ (.int .i64 y.er) := ⟨_, rfl⟩
              rw [← hF1]
              have tF1 : Touch [b17] u8 F1 := by rw [hF1]; exact ((((Touch.refl [b17] u8).setCell (p := ⟨b17, 0, none⟩) (Or.inl (by simp)) (.string s)).setCell (p := ⟨b17, 1, none⟩) (Or.inl (by simp)) (.int .i64 y.at_)).setCell (p := ⟨b17, 2, none⟩) (Or.inl (by simp)) (.int .i64 y.er))
              have h17 : F1.heap[b17]? = some (.cells #[.string s, .int .i64 y.at_, .int .i64 y.er] 113 (0, 0)) := by rw [hF1]; exact (bset (i := 2) (bset (i := 1) (bset (i := 0) g17 (.string s)) (.int .i64 y.at_)) (.int .i64 y.er))
              have g18 := tF1.keep (((((Touch.refl [] E18).trans' te17).trans' tk).trans' te).keep a18 (by simp)) (by simpa using n78.symm)
              clear hF1
              have s57 := s56.trans tF1 (fun k hk => by simp at hk; exact Or.inr (by rw [hk]; exact l17.2))
              refine hK.out _ _ s57 ?_
              clear hK
              try simp only [Go.Act.put, List.setIfInBounds_toArray, List.set_cons_zero, List.set_cons_succ]
              refine wpH_call (i := 15) (o := { dst := none, op := Op.store 88 (Operand.tmp 18) (Operand.tmp 109), type := 0, pos := _, after := #[{ on := 13, ground := Ground.data }, { on := 11, ground := Ground.data }, { on := 14, ground := Ground.chain }, { on := 0, ground := Ground.phase }, { on := 1, ground := Ground.phase }, { on := 2, ground := Ground.phase }, { on := 3, ground := Ground.phase }, { on := 4, ground := Ground.phase }, { on := 5, ground := Ground.phase }, { on := 6, ground := Ground.phase }, { on := 7, ground := Ground.phase }, { on := 8, ground := Ground.phase }, { on := 9, ground := Ground.phase }, { on := 10, ground := Ground.phase }, { on := 11, ground := Ground.phase }, { on := 12, ground := Ground.phase }, { on := 13, ground := Ground.phase }, { on := 14, ground := Ground.phase }], guard := none }) (by kernel_rfl) rfl (fun K' hK => ?_)
              rw [if_pos (by rfl)]
              have m0 := cell_of (n := 0) g18 rfl
              have m1 := cell_of (n := 1) g18 rfl
              have m2 := cell_of (n := 2) g18 rfl
              have m3 := cell_of (n := 3) g18 rfl
              have m4 := cell_of (n := 4) g18 rfl
              have m5 := cell_of (n := 5) g18 rfl
              have m6 := cell_of (n := 6) g18 rfl
              have f0 := froz_at g18 0
              have f1 := froz_at g18 1
              have f2 := froz_at g18 2
              have f3 := froz_at g18 3
              have f4 := froz_at g18 4
              have f5 := froz_at g18 5
              have f6 := froz_at g18 6
              go_simp
              clear m0 m1 m2 m3 m4 m5 m6 f0 f1 f2 f3 f4 f5 f6
              obtain ⟨F2, hF2⟩ : ∃ F2, F2 = (((((((F1).setCell ⟨b18, 0, none⟩ (.int .u16 e1.1.1)).setCell ⟨b18, 1, none⟩ (.string e1.1.2)).setCell ⟨b18, 2, none⟩ (.int .i64 e1.2.1.1)).setCell ⟨b18, 3, none⟩ (.int .i64 e1.2.1.2.1)).setCell ⟨b18, 4, none⟩ (.int .i64 e1.2.1.2.2.1)).setCell ⟨b18, 5, none⟩ (.int .i64 e1.2.1.2.2.2)).setCell ⟨b18, 6, none⟩ (.int .i64 e1.2.2) := ⟨_, rfl⟩
              rw [← hF2]
              have tF2 : Touch [b18] F1 F2 := by rw [hF2]; exact ((((((((Touch.refl [b18] F1).setCell (p := ⟨b18, 0, none⟩) (Or.inl (by simp)) (.int .u16 e1.1.1)).setCell (p := ⟨b18, 1, none⟩) (Or.inl (by simp)) (.string e1.1.2)).setCell (p := ⟨b18, 2, none⟩) (Or.inl (by simp)) (.int .i64 e1.2.1.1)).setCell (p := ⟨b18, 3, none⟩) (Or.inl (by simp)) (.int .i64 e1.2.1.2.1)).setCell (p := ⟨b18, 4, none⟩) (Or.inl (by simp)) (.int .i64 e1.2.1.2.2.1)).setCell (p := ⟨b18, 5, none⟩) (Or.inl (by simp)) (.int .i64 e1.2.1.2.2.2)).setCell (p := ⟨b18, 6, none⟩) (Or.inl (by simp)) (.int .i64 e1.2.2))
              have h18 : F2.heap[b18]? = some (.cells #[.int .u16 e1.1.1, .string e1.1.2, .int .i64 e1.2.1.1, .int .i64 e1.2.1.2.1, .int .i64 e1.2.1.2.2.1, .int .i64 e1.2.1.2.2.2, .int .i64 e1.2.2] 88 (0, 0)) := by rw [hF2]; exact (bset (i := 6) (bset (i := 5) (bset (i := 4) (bset (i := 3) (bset (i := 2) (bset (i := 1) (bset (i := 0) g18 (.int .u16 e1.1.1)) (.string e1.1.2)) (.int .i64 e1.2.1.1)) (.int .i64 e1.2.1.2.1)) (.int .i64 e1.2.1.2.2.1)) (.int .i64 e1.2.1.2.2.2)) (.int .i64 e1.2.2))
              have h17' := tF2.keep h17 (by simpa using n78)
              clear hF2
              have s58 := s57.trans tF2 (fun k hk => by simp at hk; exact Or.inr (by rw [hk]; exact l18.2))
              refine hK.out _ _ s58 ?_
              clear hK
              try simp only [Go.Act.put, List.setIfInBounds_toArray, List.set_cons_zero, List.set_cons_succ]
              refine wpAnyH_done (by kernel_rfl) ?_ _
              go_wp2_with fail
              go_meet
              case rel => exact ⟨b17, b18, e1, rfl, rfl, hid ⟨HG.out.b.call s58, own_touch HG.out.o s58 (fun _ _ e => by cases e), by have := s58.size; have := HG.out.sz; omega, l17.1, l18.1, h17', h18, HY.out, hq1⟩⟩
            exact AllH.nil
          exact AllH.nil
        case rest =>
          obtain ⟨b17, b18, e1, rfl, rfl, HC⟩ := hcut
          clear HKS HEN
          obtain ⟨rb, ow, sz, l17, l18, h17, h18, hy, hq⟩ := HC.out
          have u0' := cell_of (n := 0) h17 rfl
          have u1' := cell_of (n := 1) h17 rfl
          have u2' := cell_of (n := 2) h17 rfl
          have z0 := cell_of (n := 0) rb.r rfl
          have z1 := cell_of (n := 1) rb.r rfl
          have z2 := cell_of (n := 2) rb.r rfl
          have f0 := froz_at rb.r 0
          have f1 := froz_at rb.r 1
          have f2 := froz_at rb.r 2
          have RBc := hid rb
          have OWc := hid ow
          have H18 := hid (And.intro l18 h18)
          have HYQ := hid (And.intro hy hq)
          clear HC rb ow sz l17 l18 h17 h18 hy hq
          go_upto_region 19 with fail
          obtain ⟨W7, hW7⟩ : ∃ W7, W7 = (((wc).setCell ⟨rB, 0, none⟩ (.string s)).setCell ⟨rB, 1, none⟩ (.int .i64 y.at_)).setCell ⟨rB, 2, none⟩ (.int .i64 y.er) := ⟨_, rfl⟩
          have RB7 := hid (RBc.out.setR y hW7)
          have t7 : Touch [rB] wc W7 := by rw [hW7]; exact ((((Touch.refl [rB] wc).setCell (p := ⟨rB, 0, none⟩) (Or.inl (by simp)) (.string s)).setCell (p := ⟨rB, 1, none⟩) (Or.inl (by simp)) (.int .i64 y.at_)).setCell (p := ⟨rB, 2, none⟩) (Or.inl (by simp)) (.int .i64 y.er))
          rw [← hW7]
          clear hW7 u0' u1' u2' z0 z1 z2 f0 f1 f2
          have OW7 := hid (own_touch OWc.out t7 (fun b hb hm => by have := (OWc.out.lt b hb).1; simp at hm; omega))
          have h18 := t7.keep H18.out.2 (by have := H18.out.1; simp; omega)
          clear t7
          have k0 := cell_of (n := 0) h18 rfl
          have k1 := cell_of (n := 1) h18 rfl
          have k2 := cell_of (n := 2) h18 rfl
          have k3 := cell_of (n := 3) h18 rfl
          have k4 := cell_of (n := 4) h18 rfl
          have k5 := cell_of (n := 5) h18 rfl
          have k6 := cell_of (n := 6) h18 rfl
          have q8 := cell_of (n := 8) RB7.out.m rfl
          clear h18
          obtain ⟨W8, hW8⟩ : ∃ W8, W8 = W7.alloc (.cells #[.int .u16 e1.1.1, .string e1.1.2, .int .i64 e1.2.1.1, .int .i64 e1.2.1.2.1, .int .i64 e1.2.1.2.2.1, .int .i64 e1.2.1.2.2.2, .int .i64 e1.2.2] 88) := ⟨_, rfl⟩
          have t8 : Touch [] W7 W8 := by rw [hW8]; exact (Touch.refl _ _).alloc _
          have RB8 := hid (RB7.out.call t8)
          have OW8 := hid (own_touch OW7.out t8 (fun _ _ e => by cases e))
          have RS8 : Hid (Rs 88 7 W8 (.slice (some ⟨W7.heap.size, 0, none⟩) 1 1) 1 (nl e1)) := hid (by rw [hW8]; exact Rs.new W7 #[.int .u16 e1.1.1, .string e1.1.2, .int .i64 e1.2.1.1, .int .i64 e1.2.1.2.1, .int .i64 e1.2.1.2.2.1, .int .i64 e1.2.1.2.2.2, .int .i64 e1.2.2] 88 7 rfl)
          have HSZ8 : Hid (rB + 1 ≤ W8.heap.size) := hid (by have := block_lt RB8.out.r; omega)
          have wi : IntKind.u64.wrap ((i : Int) + 1) = (i : Int) + 1 := by rw [IntKind.wrap_u64]; omega
          go_wp2_with (at_builtin; rw [← hW8]; clear hW8 t8 q8 k0 k1 k2 k3 k4 k5 k6; refine wpList_append_rs rfl _ _ 30 88 rfl _ 7 64 infoK Tryz.underlying30 rfl (by decide) (rB + 1) (.slice a L.length cp) L.length (cellsN L) rfl OW8.out (.slice (some ⟨W7.heap.size, 0, none⟩) 1 1) 1 _ rfl RS8.out (by simp [nl, Value.oneCell']) (by unfold maxLen; have := HLL.out; omega) (by have := HLL.out; omega) HSZ8.out ?_; intro v6 w6 o6 g6 p6; obtain ⟨a6, c6, e6⟩ := own_form o6; subst e6; have RB6 := hid (RB8.out.grown OW8.out g6); have O6 := hid o6; have q8 := cell_of (n := 8) RB6.out.m rfl; have q8f := froz_at RB6.out.m 8; clear o6 g6 p6)
          go_roundw
          case rel =>
            obtain ⟨W9, hW9⟩ : ∃ W9, W9 = w6.setCell ⟨w.heap.size + 1, 8, none⟩ (.slice a6 (L.length + 1) c6) := ⟨_, rfl⟩
            have t9 : Touch [w.heap.size + 1] w6 W9 := by rw [hW9]; exact (Touch.refl _ _).setCell (Or.inl (by simp)) _
            have RB9 := RB6.out.setV (.slice a6 (L.length + 1) c6) hW9
            rw [← hW9]
            exact ⟨i + 1, y, L ++ [e1], _, _, by go_num, by have := HEK.out.1; omega, hid (HG.out.step HEK.out.1 HEK.out.2 HYQ.out.1 HYQ.out.2 RB9 (own_touch O6.out t9 (fun b hb hm => by have := (O6.out.lt b hb).1; have := RB6.out.lt; simp at hm; omega)) (by have := block_lt RB9.r; omega))⟩
          case measure => simp [intOf]; have := HEK.out.1; omega
      · have hb : (r.er == 0) = false := by simpa using he
        obtain ⟨va, vc, ev⟩ := own_form HG.out.o
        subst ev
        obtain ⟨g1, g2⟩ := HG.out.fin (Or.inr he)
        have HF : Hid ((rd4 s).1 = r ∧ (r.er = 0 → (rd4 s).2 = L)) := hid (by rw [HR4.out]; exact ⟨g1, g2⟩)
        have HFI := hid (fun w' => dfin_ w' s r HG.out.rin HSS.out)
        obtain ⟨z, hz⟩ : ∃ z, z = finR s r := ⟨_, rfl⟩
        rw [← hz] at HFI
        have HZ := hid hz
        unfold rv at HFI
        clear g1 g2 hz
        have r0 := cell_of (n := 0) HG.out.b.r rfl
        have r1 := cell_of (n := 1) HG.out.b.r rfl
        go_upto_region 21 with (go_at_call 53; refine (HFI.out _).mono ?_; rintro e w8 ⟨rfl, t8⟩; have T8 := hid t8; have RBa := hid (HG.out.b.call t8); have z0 := cell_of (n := 0) RBa.out.r rfl; have z1 := cell_of (n := 1) RBa.out.r rfl; have z2 := cell_of (n := 2) RBa.out.r rfl; have f0 := froz_at RBa.out.r 0; have f1 := froz_at RBa.out.r 1; have f2 := froz_at RBa.out.r 2; clear t8 r0 r1 r2)
        obtain ⟨W9, hW9⟩ : ∃ W9, W9 = (((w8).setCell ⟨rB, 0, none⟩ (.string s)).setCell ⟨rB, 1, none⟩ (.int .i64 z.at_)).setCell ⟨rB, 2, none⟩ (.int .i64 z.er) := ⟨_, rfl⟩
        have RB9 := hid (RBa.out.setR z hW9)
        have t9 : Touch [rB] w8 W9 := by rw [hW9]; exact ((((Touch.refl [rB] w8).setCell (p := ⟨rB, 0, none⟩) (Or.inl (by simp)) (.string s)).setCell (p := ⟨rB, 1, none⟩) (Or.inl (by simp)) (.int .i64 z.at_)).setCell (p := ⟨rB, 2, none⟩) (Or.inl (by simp)) (.int .i64 z.er))
        have OW9 := hid (own_touch (own_touch HG.out.o T8.out (fun _ _ e => by cases e)) t9 (fun b hb hm => by have := (HG.out.o.lt b hb).1; simp at hm; omega))
        rw [← hW9]
        clear hW9 t9 z0 z1 z2 f0 f1 f2 RBa HFI
        have z1 := cell_of (n := 1) RB9.out.r rfl
        have z2 := cell_of (n := 2) RB9.out.r rfl
        by_cases hze : z.er = 0
        · rw [hze] at z2
          have HRE : Hid (r.er = 0) := hid (by by_cases h0 : r.er = 0; exact h0; exact absurd (by rw [HZ.out, finR_bad h0] at hze; exact hze) h0)
          have HZE := hid hze
          have q0 := cell_of (n := 0) RB9.out.m rfl
          have q1 := cell_of (n := 1) RB9.out.m rfl
          have q2 := cell_of (n := 2) RB9.out.m rfl
          have q3 := cell_of (n := 3) RB9.out.m rfl
          have q4 := cell_of (n := 4) RB9.out.m rfl
          have q5 := cell_of (n := 5) RB9.out.m rfl
          have q6 := cell_of (n := 6) RB9.out.m rfl
          have q7 := cell_of (n := 7) RB9.out.m rfl
          have q8 := cell_of (n := 8) RB9.out.m rfl
          have p0 := cell_of (n := 0) RB9.out.z rfl
          have p1 := cell_of (n := 1) RB9.out.z rfl
          have p2 := cell_of (n := 2) RB9.out.z rfl
          have p3 := cell_of (n := 3) RB9.out.z rfl
          have p4 := cell_of (n := 4) RB9.out.z rfl
          have p5 := cell_of (n := 5) RB9.out.z rfl
          have p6 := cell_of (n := 6) RB9.out.z rfl
          have p7 := cell_of (n := 7) RB9.out.z rfl
          have p8 := cell_of (n := 8) RB9.out.z rfl
          have pf := froz_at RB9.out.z
          clear hze
          go_wp2_with fail
          obtain ⟨E, hE⟩ : ∃ E, E = (((((((((W9).setCell ⟨w.heap.size, 0, none⟩ (.int .i64 cc.t)).setCell ⟨w.heap.size, 1, none⟩ (.int .i64 cc.n)).setCell ⟨w.heap.size, 2, none⟩ (.int .i64 cc.s)).setCell ⟨w.heap.size, 3, none⟩ (.int .i64 cc.e)).setCell ⟨w.heap.size, 4, none⟩ (.int .i64 cc.f)).setCell ⟨w.heap.size, 5, none⟩ (.int .i64 cc.b)).setCell ⟨w.heap.size, 6, none⟩ (.int .i64 cc.d)).setCell ⟨w.heap.size, 7, none⟩ (.int .i64 now)).setCell ⟨w.heap.size, 8, none⟩ (.slice va L.length vc) := ⟨_, rfl⟩
          have tE : Touch [w.heap.size] W9 E := by rw [hE]; exact ((((((((((Touch.refl [w.heap.size] W9).setCell (p := ⟨w.heap.size, 0, none⟩) (Or.inl (by simp)) (.int .i64 cc.t)).setCell (p := ⟨w.heap.size, 1, none⟩) (Or.inl (by simp)) (.int .i64 cc.n)).setCell (p := ⟨w.heap.size, 2, none⟩) (Or.inl (by simp)) (.int .i64 cc.s)).setCell (p := ⟨w.heap.size, 3, none⟩) (Or.inl (by simp)) (.int .i64 cc.e)).setCell (p := ⟨w.heap.size, 4, none⟩) (Or.inl (by simp)) (.int .i64 cc.f)).setCell (p := ⟨w.heap.size, 5, none⟩) (Or.inl (by simp)) (.int .i64 cc.b)).setCell (p := ⟨w.heap.size, 6, none⟩) (Or.inl (by simp)) (.int .i64 cc.d)).setCell (p := ⟨w.heap.size, 7, none⟩) (Or.inl (by simp)) (.int .i64 now)).setCell (p := ⟨w.heap.size, 8, none⟩) (Or.inl (by simp)) (.slice va L.length vc))
          have hEz : E.heap[w.heap.size]? = some (.cells #[.int .i64 cc.t, .int .i64 cc.n, .int .i64 cc.s, .int .i64 cc.e, .int .i64 cc.f, .int .i64 cc.b, .int .i64 cc.d, .int .i64 now, .slice va L.length vc] 32 (0, 0)) := by rw [hE]; exact blk9 RB9.out.z _ _ _ _ _ _ _ _ _
          rw [← hE]
          have y0' := cell_of (n := 0) hEz rfl
          have y1' := cell_of (n := 1) hEz rfl
          have y2' := cell_of (n := 2) hEz rfl
          have y3' := cell_of (n := 3) hEz rfl
          have y4' := cell_of (n := 4) hEz rfl
          have y5' := cell_of (n := 5) hEz rfl
          have y6' := cell_of (n := 6) hEz rfl
          have y7' := cell_of (n := 7) hEz rfl
          have y8' := cell_of (n := 8) hEz rfl
          refine bodyPost_ret (v := .tuple #[.agg #[.int .i64 cc.t, .int .i64 cc.n, .int .i64 cc.s, .int .i64 cc.e, .int .i64 cc.f, .int .i64 cc.b, .int .i64 cc.d, .int .i64 now, .slice va L.length vc], .int .i64 0, .int .i64 0]) (by simp [results, Tryz.results13, go_sem, y0', y1', y2', y3', y4', y5', y6', y7', y8']) rfl ⟨RB9.out.t.trans tE (fun k hk => by simp at hk; omega), Or.inr ⟨by rw [HF.out.1, ← HZ.out]; exact HZE.out, _, by rw [HR2.out, HR3N.out]; rfl, ?_⟩⟩
          rw [HF.out.2 HRE.out]
          exact RN.own (own_touch OW9.out tE (fun b hb hm => by have := (OW9.out.lt b hb).1; have := RB9.out.lt; simp at hm; omega))
        · have hzb : (z.er != 0) = true := by simpa using hze
          have HZE := hid hze
          clear hze
          go_upto_region 22 with fail
          have RD := hid (RB9.out.call ((Touch.refl [] W9).drew))
          have HZZ := hid RD.out.z
          clear z1 z2
          refine wp_region_H (S := fun w' => w'.heap[rB]? = some (.cells #[.string s, .int .i64 z.at_, .int .i64 z.er] 113 (0, 0))) (by kernel_rfl) ?_
          have s0 := RD.out.r
          have g0 := RD.out.z
          have HTD := hid RD.out.t
          have HLT := hid RD.out.lt
          generalize W9.drew = D0 at *
          have X1 : ∀ w' : World, w'.heap[rB]? = some (.cells #[.string s, .int .i64 z.at_, .int .i64 z.er] 113 (0, 0)) → w'.cell? ⟨rB, 1, none⟩ = some (.int .i64 z.at_) := fun w' h => cell_of (n := 1) h rfl
          have X2 : ∀ w' : World, w'.heap[rB]? = some (.cells #[.string s, .int .i64 z.at_, .int .i64 z.er] 113 (0, 0)) → w'.cell? ⟨rB, 2, none⟩ = some (.int .i64 z.er) := fun w' h => cell_of (n := 2) h rfl
          refine wpH_take (i := 0) (v := (.agg #[.int .i64 0, .int .i64 0, .int .i64 0, .int .i64 0, .int .i64 0, .int .i64 0, .int .i64 0, .int .i64 0, .slice none 0 0])) (some 122) rfl rfl (by kernel_rfl) (by kernel_rfl) (by kernel_rfl) (fun _ _ _ h => h) (Or.inl ⟨by rfl, fun w' hS => (by go_simp)⟩) s0 ?_
          try simp only [Go.Act.put, List.setIfInBounds_toArray, List.set_cons_zero, List.set_cons_succ]
          refine wpH_take (i := 1) (v := (.pointer (some ⟨rB, 1, none⟩))) (some 123) rfl rfl (by kernel_rfl) (by kernel_rfl) (by kernel_rfl) (fun _ _ _ h => h) (Or.inl ⟨by rfl, fun w' hS => (by go_simp)⟩) s0 ?_
          try simp only [Go.Act.put, List.setIfInBounds_toArray, List.set_cons_zero, List.set_cons_succ]
          refine wpH_take (i := 2) (v := (.int .i64 z.at_)) (some 124) rfl rfl (by kernel_rfl) (by kernel_rfl) (by kernel_rfl) (fun _ _ _ h => h) (Or.inl ⟨by rfl, fun w' hS => (by have z0 := X1 _ hS; go_simp)⟩) s0 ?_
          try simp only [Go.Act.put, List.setIfInBounds_toArray, List.set_cons_zero, List.set_cons_succ]
          refine wpH_take (i := 3) (v := (.pointer (some ⟨rB, 2, none⟩))) (some 125) rfl rfl (by kernel_rfl) (by kernel_rfl) (by kernel_rfl) (fun _ _ _ h => h) (Or.inl ⟨by rfl, fun w' hS => (by go_simp)⟩) s0 ?_
          try simp only [Go.Act.put, List.setIfInBounds_toArray, List.set_cons_zero, List.set_cons_succ]
          refine wpH_take (i := 4) (v := (.int .i64 z.er)) (some 126) rfl rfl (by kernel_rfl) (by kernel_rfl) (by kernel_rfl) (fun _ _ _ h => h) (Or.inl ⟨by rfl, fun w' hS => (by have z0 := X2 _ hS; go_simp)⟩) s0 ?_
          try simp only [Go.Act.put, List.setIfInBounds_toArray, List.set_cons_zero, List.set_cons_succ]
          refine wpH_call (i := 5) (o := { dst := none, op := Op.store 32 (Operand.tmp 2) (Operand.tmp 122), type := 0, pos := _, after := #[{ on := 0, ground := Ground.data }, { on := 0, ground := Ground.phase }, { on := 1, ground := Ground.textOnly Departure.lateStores }, { on := 2, ground := Ground.textOnly Departure.lateStores }, { on := 3, ground := Ground.textOnly Departure.lateStores }, { on := 4, ground := Ground.textOnly Departure.lateStores }], guard := none }) (by kernel_rfl) rfl (fun K' hK => ?_)
          rw [if_pos (by rfl)]
          have m0 := cell_of (n := 0) g0 rfl
          have m1 := cell_of (n := 1) g0 rfl
          have m2 := cell_of (n := 2) g0 rfl
          have m3 := cell_of (n := 3) g0 rfl
          have m4 := cell_of (n := 4) g0 rfl
          have m5 := cell_of (n := 5) g0 rfl
          have m6 := cell_of (n := 6) g0 rfl
          have m7 := cell_of (n := 7) g0 rfl
          have m8 := cell_of (n := 8) g0 rfl
          have f0 := froz_at g0 0
          have f1 := froz_at g0 1
          have f2 := froz_at g0 2
          have f3 := froz_at g0 3
          have f4 := froz_at g0 4
          have f5 := froz_at g0 5
          have f6 := froz_at g0 6
          have f7 := froz_at g0 7
          have f8 := froz_at g0 8
          go_simp
          obtain ⟨E, hE⟩ : ∃ E, E = (((((((((D0).setCell ⟨w.heap.size, 0, none⟩ (.int .i64 0)).setCell ⟨w.heap.size, 1, none⟩ (.int .i64 0)).setCell ⟨w.heap.size, 2, none⟩ (.int .i64 0)).setCell ⟨w.heap.size, 3, none⟩ (.int .i64 0)).setCell ⟨w.heap.size, 4, none⟩ (.int .i64 0)).setCell ⟨w.heap.size, 5, none⟩ (.int .i64 0)).setCell ⟨w.heap.size, 6, none⟩ (.int .i64 0)).setCell ⟨w.heap.size, 7, none⟩ (.int .i64 0)).setCell ⟨w.heap.size, 8, none⟩ (.slice none 0 0) := ⟨_, rfl⟩
          have tE : Touch [w.heap.size] D0 E := by rw [hE]; exact ((((((((((Touch.refl [w.heap.size] D0).setCell (p := ⟨w.heap.size, 0, none⟩) (Or.inl (by simp)) (.int .i64 0)).setCell (p := ⟨w.heap.size, 1, none⟩) (Or.inl (by simp)) (.int .i64 0)).setCell (p := ⟨w.heap.size, 2, none⟩) (Or.inl (by simp)) (.int .i64 0)).setCell (p := ⟨w.heap.size, 3, none⟩) (Or.inl (by simp)) (.int .i64 0)).setCell (p := ⟨w.heap.size, 4, none⟩) (Or.inl (by simp)) (.int .i64 0)).setCell (p := ⟨w.heap.size, 5, none⟩) (Or.inl (by simp)) (.int .i64 0)).setCell (p := ⟨w.heap.size, 6, none⟩) (Or.inl (by simp)) (.int .i64 0)).setCell (p := ⟨w.heap.size, 7, none⟩) (Or.inl (by simp)) (.int .i64 0)).setCell (p := ⟨w.heap.size, 8, none⟩) (Or.inl (by simp)) (.slice none 0 0))
          have hEz : E.heap[w.heap.size]? = some (.cells #[.int .i64 0, .int .i64 0, .int .i64 0, .int .i64 0, .int .i64 0, .int .i64 0, .int .i64 0, .int .i64 0, .slice none 0 0] 32 (0, 0)) := by rw [hE]; exact blk9 g0 _ _ _ _ _ _ _ _ _
          rw [← hE]
          clear hE m0 f0 m1 f1 m2 f2 m3 f3 m4 f4 m5 f5 m6 f6 m7 f7 m8 f8
          have s1 := tE.keep s0 (by have := HLT.out; simp; omega)
          refine hK.out _ _ s1 ?_
          clear hK
          try simp only [Go.Act.put, List.setIfInBounds_toArray, List.set_cons_zero, List.set_cons_succ]
          refine wpH_take (i := 6) (v := (.int .i64 z.at_)) (some 3) rfl rfl (by kernel_rfl) (by kernel_rfl) (by kernel_rfl) (fun _ _ _ h => h) (Or.inl ⟨by rfl, fun w' hS => (by go_simp)⟩) s1 ?_
          try simp only [Go.Act.put, List.setIfInBounds_toArray, List.set_cons_zero, List.set_cons_succ]
          refine wpH_take (i := 7) (v := (.int .i64 z.er)) (some 4) rfl rfl (by kernel_rfl) (by kernel_rfl) (by kernel_rfl) (fun _ _ _ h => h) (Or.inl ⟨by rfl, fun w' hS => (by go_simp)⟩) s1 ?_
          try simp only [Go.Act.put, List.setIfInBounds_toArray, List.set_cons_zero, List.set_cons_succ]
          refine wpAnyH_done (by kernel_rfl) ?_ _
          go_wp2_with fail
          have y0' := cell_of (n := 0) hEz rfl
          have y1' := cell_of (n := 1) hEz rfl
          have y2' := cell_of (n := 2) hEz rfl
          have y3' := cell_of (n := 3) hEz rfl
          have y4' := cell_of (n := 4) hEz rfl
          have y5' := cell_of (n := 5) hEz rfl
          have y6' := cell_of (n := 6) hEz rfl
          have y7' := cell_of (n := 7) hEz rfl
          have y8' := cell_of (n := 8) hEz rfl
          exact bodyPost_ret (v := .tuple #[.agg #[.int .i64 0, .int .i64 0, .int .i64 0, .int .i64 0, .int .i64 0, .int .i64 0, .int .i64 0, .int .i64 0, .slice none 0 0], .int .i64 z.at_, .int .i64 z.er]) (by simp [results, Tryz.results13, go_sem, y0', y1', y2', y3', y4', y5', y6', y7', y8']) rfl ⟨HTD.out.trans tE (fun k hk => by simp at hk; omega), Or.inl ⟨by rw [HF.out.1, ← HZ.out]; exact HZE.out, by rw [HF.out.1, ← HZ.out]⟩⟩
    · have hz : ¬ (i : Int) < (n : Int) := by omega
      obtain ⟨va, vc, ev⟩ := own_form HG.out.o
      subst ev
      obtain ⟨g1, g2⟩ := HG.out.fin (Or.inl (by omega))
      have HF : Hid ((rd4 s).1 = r ∧ (r.er = 0 → (rd4 s).2 = L)) := hid (by rw [HR4.out]; exact ⟨g1, g2⟩)
      have HFI := hid (fun w' => dfin_ w' s r HG.out.rin HSS.out)
      obtain ⟨z, hz⟩ : ∃ z, z = finR s r := ⟨_, rfl⟩
      rw [← hz] at HFI
      have HZ := hid hz
      unfold rv at HFI
      clear g1 g2 hz
      have r0 := cell_of (n := 0) HG.out.b.r rfl
      have r1 := cell_of (n := 1) HG.out.b.r rfl
      go_upto_region 21 with (go_at_call 53; refine (HFI.out _).mono ?_; rintro e w8 ⟨rfl, t8⟩; have T8 := hid t8; have RBa := hid (HG.out.b.call t8); have z0 := cell_of (n := 0) RBa.out.r rfl; have z1 := cell_of (n := 1) RBa.out.r rfl; have z2 := cell_of (n := 2) RBa.out.r rfl; have f0 := froz_at RBa.out.r 0; have f1 := froz_at RBa.out.r 1; have f2 := froz_at RBa.out.r 2; clear t8 r0 r1 r2)
      obtain ⟨W9, hW9⟩ : ∃ W9, W9 = (((w8).setCell ⟨rB, 0, none⟩ (.string s)).setCell ⟨rB, 1, none⟩ (.int .i64 z.at_)).setCell ⟨rB, 2, none⟩ (.int .i64 z.er) := ⟨_, rfl⟩
      have RB9 := hid (RBa.out.setR z hW9)
      have t9 : Touch [rB] w8 W9 := by rw [hW9]; exact ((((Touch.refl [rB] w8).setCell (p := ⟨rB, 0, none⟩) (Or.inl (by simp)) (.string s)).setCell (p := ⟨rB, 1, none⟩) (Or.inl (by simp)) (.int .i64 z.at_)).setCell (p := ⟨rB, 2, none⟩) (Or.inl (by simp)) (.int .i64 z.er))
      have OW9 := hid (own_touch (own_touch HG.out.o T8.out (fun _ _ e => by cases e)) t9 (fun b hb hm => by have := (HG.out.o.lt b hb).1; simp at hm; omega))
      rw [← hW9]
      clear hW9 t9 z0 z1 z2 f0 f1 f2 RBa HFI
      have z1 := cell_of (n := 1) RB9.out.r rfl
      have z2 := cell_of (n := 2) RB9.out.r rfl
      by_cases hze : z.er = 0
      · rw [hze] at z2
        have HRE : Hid (r.er = 0) := hid (by by_cases h0 : r.er = 0; exact h0; exact absurd (by rw [HZ.out, finR_bad h0] at hze; exact hze) h0)
        have HZE := hid hze
        have q0 := cell_of (n := 0) RB9.out.m rfl
        have q1 := cell_of (n := 1) RB9.out.m rfl
        have q2 := cell_of (n := 2) RB9.out.m rfl
        have q3 := cell_of (n := 3) RB9.out.m rfl
        have q4 := cell_of (n := 4) RB9.out.m rfl
        have q5 := cell_of (n := 5) RB9.out.m rfl
        have q6 := cell_of (n := 6) RB9.out.m rfl
        have q7 := cell_of (n := 7) RB9.out.m rfl
        have q8 := cell_of (n := 8) RB9.out.m rfl
        have p0 := cell_of (n := 0) RB9.out.z rfl
        have p1 := cell_of (n := 1) RB9.out.z rfl
        have p2 := cell_of (n := 2) RB9.out.z rfl
        have p3 := cell_of (n := 3) RB9.out.z rfl
        have p4 := cell_of (n := 4) RB9.out.z rfl
        have p5 := cell_of (n := 5) RB9.out.z rfl
        have p6 := cell_of (n := 6) RB9.out.z rfl
        have p7 := cell_of (n := 7) RB9.out.z rfl
        have p8 := cell_of (n := 8) RB9.out.z rfl
        have pf := froz_at RB9.out.z
        clear hze
        go_wp2_with fail
        obtain ⟨E, hE⟩ : ∃ E, E = (((((((((W9).setCell ⟨w.heap.size, 0, none⟩ (.int .i64 cc.t)).setCell ⟨w.heap.size, 1, none⟩ (.int .i64 cc.n)).setCell ⟨w.heap.size, 2, none⟩ (.int .i64 cc.s)).setCell ⟨w.heap.size, 3, none⟩ (.int .i64 cc.e)).setCell ⟨w.heap.size, 4, none⟩ (.int .i64 cc.f)).setCell ⟨w.heap.size, 5, none⟩ (.int .i64 cc.b)).setCell ⟨w.heap.size, 6, none⟩ (.int .i64 cc.d)).setCell ⟨w.heap.size, 7, none⟩ (.int .i64 now)).setCell ⟨w.heap.size, 8, none⟩ (.slice va L.length vc) := ⟨_, rfl⟩
        have tE : Touch [w.heap.size] W9 E := by rw [hE]; exact ((((((((((Touch.refl [w.heap.size] W9).setCell (p := ⟨w.heap.size, 0, none⟩) (Or.inl (by simp)) (.int .i64 cc.t)).setCell (p := ⟨w.heap.size, 1, none⟩) (Or.inl (by simp)) (.int .i64 cc.n)).setCell (p := ⟨w.heap.size, 2, none⟩) (Or.inl (by simp)) (.int .i64 cc.s)).setCell (p := ⟨w.heap.size, 3, none⟩) (Or.inl (by simp)) (.int .i64 cc.e)).setCell (p := ⟨w.heap.size, 4, none⟩) (Or.inl (by simp)) (.int .i64 cc.f)).setCell (p := ⟨w.heap.size, 5, none⟩) (Or.inl (by simp)) (.int .i64 cc.b)).setCell (p := ⟨w.heap.size, 6, none⟩) (Or.inl (by simp)) (.int .i64 cc.d)).setCell (p := ⟨w.heap.size, 7, none⟩) (Or.inl (by simp)) (.int .i64 now)).setCell (p := ⟨w.heap.size, 8, none⟩) (Or.inl (by simp)) (.slice va L.length vc))
        have hEz : E.heap[w.heap.size]? = some (.cells #[.int .i64 cc.t, .int .i64 cc.n, .int .i64 cc.s, .int .i64 cc.e, .int .i64 cc.f, .int .i64 cc.b, .int .i64 cc.d, .int .i64 now, .slice va L.length vc] 32 (0, 0)) := by rw [hE]; exact blk9 RB9.out.z _ _ _ _ _ _ _ _ _
        rw [← hE]
        have y0' := cell_of (n := 0) hEz rfl
        have y1' := cell_of (n := 1) hEz rfl
        have y2' := cell_of (n := 2) hEz rfl
        have y3' := cell_of (n := 3) hEz rfl
        have y4' := cell_of (n := 4) hEz rfl
        have y5' := cell_of (n := 5) hEz rfl
        have y6' := cell_of (n := 6) hEz rfl
        have y7' := cell_of (n := 7) hEz rfl
        have y8' := cell_of (n := 8) hEz rfl
        refine bodyPost_ret (v := .tuple #[.agg #[.int .i64 cc.t, .int .i64 cc.n, .int .i64 cc.s, .int .i64 cc.e, .int .i64 cc.f, .int .i64 cc.b, .int .i64 cc.d, .int .i64 now, .slice va L.length vc], .int .i64 0, .int .i64 0]) (by simp [results, Tryz.results13, go_sem, y0', y1', y2', y3', y4', y5', y6', y7', y8']) rfl ⟨RB9.out.t.trans tE (fun k hk => by simp at hk; omega), Or.inr ⟨by rw [HF.out.1, ← HZ.out]; exact HZE.out, _, by rw [HR2.out, HR3N.out]; rfl, ?_⟩⟩
        rw [HF.out.2 HRE.out]
        exact RN.own (own_touch OW9.out tE (fun b hb hm => by have := (OW9.out.lt b hb).1; have := RB9.out.lt; simp at hm; omega))
      · have hzb : (z.er != 0) = true := by simpa using hze
        have HZE := hid hze
        clear hze
        go_upto_region 22 with fail
        have RD := hid (RB9.out.call ((Touch.refl [] W9).drew))
        have HZZ := hid RD.out.z
        clear z1 z2
        refine wp_region_H (S := fun w' => w'.heap[rB]? = some (.cells #[.string s, .int .i64 z.at_, .int .i64 z.er] 113 (0, 0))) (by kernel_rfl) ?_
        have s0 := RD.out.r
        have g0 := RD.out.z
        have HTD := hid RD.out.t
        have HLT := hid RD.out.lt
        generalize W9.drew = D0 at *
        have X1 : ∀ w' : World, w'.heap[rB]? = some (.cells #[.string s, .int .i64 z.at_, .int .i64 z.er] 113 (0, 0)) → w'.cell? ⟨rB, 1, none⟩ = some (.int .i64 z.at_) := fun w' h => cell_of (n := 1) h rfl
        have X2 : ∀ w' : World, w'.heap[rB]? = some (.cells #[.string s, .int .i64 z.at_, .int .i64 z.er] 113 (0, 0)) → w'.cell? ⟨rB, 2, none⟩ = some (.int .i64 z.er) := fun w' h => cell_of (n := 2) h rfl
        refine wpH_take (i := 0) (v := (.agg #[.int .i64 0, .int .i64 0, .int .i64 0, .int .i64 0, .int .i64 0, .int .i64 0, .int .i64 0, .int .i64 0, .slice none 0 0])) (some 122) rfl rfl (by kernel_rfl) (by kernel_rfl) (by kernel_rfl) (fun _ _ _ h => h) (Or.inl ⟨by rfl, fun w' hS => (by go_simp)⟩) s0 ?_
        try simp only [Go.Act.put, List.setIfInBounds_toArray, List.set_cons_zero, List.set_cons_succ]
        refine wpH_take (i := 1) (v := (.pointer (some ⟨rB, 1, none⟩))) (some 123) rfl rfl (by kernel_rfl) (by kernel_rfl) (by kernel_rfl) (fun _ _ _ h => h) (Or.inl ⟨by rfl, fun w' hS => (by go_simp)⟩) s0 ?_
        try simp only [Go.Act.put, List.setIfInBounds_toArray, List.set_cons_zero, List.set_cons_succ]
        refine wpH_take (i := 2) (v := (.int .i64 z.at_)) (some 124) rfl rfl (by kernel_rfl) (by kernel_rfl) (by kernel_rfl) (fun _ _ _ h => h) (Or.inl ⟨by rfl, fun w' hS => (by have z0 := X1 _ hS; go_simp)⟩) s0 ?_
        try simp only [Go.Act.put, List.setIfInBounds_toArray, List.set_cons_zero, List.set_cons_succ]
        refine wpH_take (i := 3) (v := (.pointer (some ⟨rB, 2, none⟩))) (some 125) rfl rfl (by kernel_rfl) (by kernel_rfl) (by kernel_rfl) (fun _ _ _ h => h) (Or.inl ⟨by rfl, fun w' hS => (by go_simp)⟩) s0 ?_
        try simp only [Go.Act.put, List.setIfInBounds_toArray, List.set_cons_zero, List.set_cons_succ]
        refine wpH_take (i := 4) (v := (.int .i64 z.er)) (some 126) rfl rfl (by kernel_rfl) (by kernel_rfl) (by kernel_rfl) (fun _ _ _ h => h) (Or.inl ⟨by rfl, fun w' hS => (by have z0 := X2 _ hS; go_simp)⟩) s0 ?_
        try simp only [Go.Act.put, List.setIfInBounds_toArray, List.set_cons_zero, List.set_cons_succ]
        refine wpH_call (i := 5) (o := { dst := none, op := Op.store 32 (Operand.tmp 2) (Operand.tmp 122), type := 0, pos := _, after := #[{ on := 0, ground := Ground.data }, { on := 0, ground := Ground.phase }, { on := 1, ground := Ground.textOnly Departure.lateStores }, { on := 2, ground := Ground.textOnly Departure.lateStores }, { on := 3, ground := Ground.textOnly Departure.lateStores }, { on := 4, ground := Ground.textOnly Departure.lateStores }], guard := none }) (by kernel_rfl) rfl (fun K' hK => ?_)
        rw [if_pos (by rfl)]
        have m0 := cell_of (n := 0) g0 rfl
        have m1 := cell_of (n := 1) g0 rfl
        have m2 := cell_of (n := 2) g0 rfl
        have m3 := cell_of (n := 3) g0 rfl
        have m4 := cell_of (n := 4) g0 rfl
        have m5 := cell_of (n := 5) g0 rfl
        have m6 := cell_of (n := 6) g0 rfl
        have m7 := cell_of (n := 7) g0 rfl
        have m8 := cell_of (n := 8) g0 rfl
        have f0 := froz_at g0 0
        have f1 := froz_at g0 1
        have f2 := froz_at g0 2
        have f3 := froz_at g0 3
        have f4 := froz_at g0 4
        have f5 := froz_at g0 5
        have f6 := froz_at g0 6
        have f7 := froz_at g0 7
        have f8 := froz_at g0 8
        go_simp
        obtain ⟨E, hE⟩ : ∃ E, E = (((((((((D0).setCell ⟨w.heap.size, 0, none⟩ (.int .i64 0)).setCell ⟨w.heap.size, 1, none⟩ (.int .i64 0)).setCell ⟨w.heap.size, 2, none⟩ (.int .i64 0)).setCell ⟨w.heap.size, 3, none⟩ (.int .i64 0)).setCell ⟨w.heap.size, 4, none⟩ (.int .i64 0)).setCell ⟨w.heap.size, 5, none⟩ (.int .i64 0)).setCell ⟨w.heap.size, 6, none⟩ (.int .i64 0)).setCell ⟨w.heap.size, 7, none⟩ (.int .i64 0)).setCell ⟨w.heap.size, 8, none⟩ (.slice none 0 0) := ⟨_, rfl⟩
        have tE : Touch [w.heap.size] D0 E := by rw [hE]; exact ((((((((((Touch.refl [w.heap.size] D0).setCell (p := ⟨w.heap.size, 0, none⟩) (Or.inl (by simp)) (.int .i64 0)).setCell (p := ⟨w.heap.size, 1, none⟩) (Or.inl (by simp)) (.int .i64 0)).setCell (p := ⟨w.heap.size, 2, none⟩) (Or.inl (by simp)) (.int .i64 0)).setCell (p := ⟨w.heap.size, 3, none⟩) (Or.inl (by simp)) (.int .i64 0)).setCell (p := ⟨w.heap.size, 4, none⟩) (Or.inl (by simp)) (.int .i64 0)).setCell (p := ⟨w.heap.size, 5, none⟩) (Or.inl (by simp)) (.int .i64 0)).setCell (p := ⟨w.heap.size, 6, none⟩) (Or.inl (by simp)) (.int .i64 0)).setCell (p := ⟨w.heap.size, 7, none⟩) (Or.inl (by simp)) (.int .i64 0)).setCell (p := ⟨w.heap.size, 8, none⟩) (Or.inl (by simp)) (.slice none 0 0))
        have hEz : E.heap[w.heap.size]? = some (.cells #[.int .i64 0, .int .i64 0, .int .i64 0, .int .i64 0, .int .i64 0, .int .i64 0, .int .i64 0, .int .i64 0, .slice none 0 0] 32 (0, 0)) := by rw [hE]; exact blk9 g0 _ _ _ _ _ _ _ _ _
        rw [← hE]
        clear hE m0 f0 m1 f1 m2 f2 m3 f3 m4 f4 m5 f5 m6 f6 m7 f7 m8 f8
        have s1 := tE.keep s0 (by have := HLT.out; simp; omega)
        refine hK.out _ _ s1 ?_
        clear hK
        try simp only [Go.Act.put, List.setIfInBounds_toArray, List.set_cons_zero, List.set_cons_succ]
        refine wpH_take (i := 6) (v := (.int .i64 z.at_)) (some 3) rfl rfl (by kernel_rfl) (by kernel_rfl) (by kernel_rfl) (fun _ _ _ h => h) (Or.inl ⟨by rfl, fun w' hS => (by go_simp)⟩) s1 ?_
        try simp only [Go.Act.put, List.setIfInBounds_toArray, List.set_cons_zero, List.set_cons_succ]
        refine wpH_take (i := 7) (v := (.int .i64 z.er)) (some 4) rfl rfl (by kernel_rfl) (by kernel_rfl) (by kernel_rfl) (fun _ _ _ h => h) (Or.inl ⟨by rfl, fun w' hS => (by go_simp)⟩) s1 ?_
        try simp only [Go.Act.put, List.setIfInBounds_toArray, List.set_cons_zero, List.set_cons_succ]
        refine wpAnyH_done (by kernel_rfl) ?_ _
        go_wp2_with fail
        have y0' := cell_of (n := 0) hEz rfl
        have y1' := cell_of (n := 1) hEz rfl
        have y2' := cell_of (n := 2) hEz rfl
        have y3' := cell_of (n := 3) hEz rfl
        have y4' := cell_of (n := 4) hEz rfl
        have y5' := cell_of (n := 5) hEz rfl
        have y6' := cell_of (n := 6) hEz rfl
        have y7' := cell_of (n := 7) hEz rfl
        have y8' := cell_of (n := 8) hEz rfl
        exact bodyPost_ret (v := .tuple #[.agg #[.int .i64 0, .int .i64 0, .int .i64 0, .int .i64 0, .int .i64 0, .int .i64 0, .int .i64 0, .int .i64 0, .slice none 0 0], .int .i64 z.at_, .int .i64 z.er]) (by simp [results, Tryz.results13, go_sem, y0', y1', y2', y3', y4', y5', y6', y7', y8']) rfl ⟨HTD.out.trans tE (fun k hk => by simp at hk; omega), Or.inl ⟨by rw [HF.out.1, ← HZ.out]; exact HZE.out, by rw [HF.out.1, ← HZ.out]⟩⟩
end Go.Proofs.YtpefbmheblfbeaaGreat.Sn
