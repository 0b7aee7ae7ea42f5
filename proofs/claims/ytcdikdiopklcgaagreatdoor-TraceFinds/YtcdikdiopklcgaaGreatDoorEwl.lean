/- The law TraceFinds, walked; the condition is that the table holds what the start lays. -/
import Derived.Test.YtcdikdiopklcgaaGreatDoorEwk
import Derived.Test.YtcdikdiopklcgaaGreatDoorDsx
namespace Go.Proofs.YtcdikdiopklcgaaGreatDoor.Tr
open Go.RowKit Go.Sort Go.Shelf Go.Maps Go.ChangeMaps
set_option linter.unusedVariables false
set_option linter.unusedSimpArgs false
/-- what is looked for, in a box -/
structure Kc (w : World) (b : Nat) (u : Value) (run cl sp : Int) (nm : ByteArray) (ff tt : Int) : Prop where
  c0 : w.cell? ⟨b, 0, none⟩ = some u
  c1 : w.cell? ⟨b, 1, none⟩ = some (.int .i64 run)
  c2 : w.cell? ⟨b, 2, none⟩ = some (.int .i64 cl)
  c3 : w.cell? ⟨b, 3, none⟩ = some (.int .u16 sp)
  c4 : w.cell? ⟨b, 4, none⟩ = some (.string nm)
  c5 : w.cell? ⟨b, 5, none⟩ = some (.int .i64 ff)
  c6 : w.cell? ⟨b, 6, none⟩ = some (.int .i64 tt)
theorem Kc.touch {w w' : World} {b : Nat} {u : Value} {run cl sp : Int} {nm : ByteArray} {ff tt : Int} (h : Kc w b u run cl sp nm ff tt) (t : Touch [] w w') : Kc w' b u run cl sp nm ff tt :=
  ⟨tcell t h.c0, tcell t h.c1, tcell t h.c2, tcell t h.c3, tcell t h.c4, tcell t h.c5, tcell t h.c6⟩
/-- what each of the five looks asks -/
def Pf (ks : List Int) (run cl sp : Int) (nm : ByteArray) (ff tt : Int) : Nat → Ez → Bool := sel5 (fun e => ks.contains e.kd) (fun e => decide (run ≠ 0) && decide (e.ru = run)) (fun e => nmB e.kd 107 && keqB e.sp e.nm sp nm) (fun e => decide (cl ≠ 0) && decide (e.cl = cl)) (fun e => decide (ff ≤ e.at_) && decide (e.at_ ≤ tt))
/-- the places behind i of the five looks at event j -/
def XX (P : Nat → Ez → Bool) (L : List Ez) (j i : Nat) : Nat → List Int := fun k => if k < i then plc (P k) (L.take (j + 1)) else plc (P k) (L.take j)
theorem xx_yes {P : Nat → Ez → Bool} {L : List Ez} {j i : Nat} {e : Ez} (he : L[j]? = some e) (hp : P i e = true) : ∀ k, k < 5 → upd5 (XX P L j i) i (XX P L j i i ++ [(j : Int)]) k = XX P L j (i + 1) k := fun k _ => by
  by_cases h : k = i
  · subst h
    rw [upd5_same]
    unfold XX
    rw [if_neg (Nat.lt_irrefl _), if_pos (Nat.lt_succ_self _), plc_take _ _ _ _ he, hp]; rfl
  · rw [upd5_ne _ _ h]
    unfold XX
    by_cases h2 : k < i
    · rw [if_pos h2, if_pos (by omega)]
    · rw [if_neg h2, if_neg (by omega)]
theorem xx_no {P : Nat → Ez → Bool} {L : List Ez} {j i : Nat} {e : Ez} (he : L[j]? = some e) (hp : P i e = false) : ∀ k, k < 5 → XX P L j i k = XX P L j (i + 1) k := fun k _ => by
  unfold XX
  by_cases h : k = i
  · subst h
    rw [if_neg (Nat.lt_irrefl _), if_pos (Nat.lt_succ_self _), plc_take _ _ _ _ he, hp]; simp
  · by_cases h2 : k < i
    · rw [if_pos h2, if_pos (by omega)]
    · rw [if_neg h2, if_neg (by omega)]
theorem xx_len (P : Nat → Ez → Bool) (L : List Ez) (j i k : Nat) : (XX P L j i k).length ≤ L.length := by
  unfold XX
  split
  · exact Nat.le_trans (plc_len _ _) (by rw [List.length_take]; omega)
  · exact Nat.le_trans (plc_len _ _) (by rw [List.length_take]; omega)
theorem pf1_no {ks : List Int} {run cl sp : Int} {nm : ByteArray} {ff tt : Int} {e : Ez} (h : e.ru = 0) : Pf ks run cl sp nm ff tt 1 e = false := by
  show (decide (run ≠ 0) && decide (e.ru = run)) = false
  by_cases h2 : run = 0
  · simp [h2]
  · simp [h]; intro; omega
theorem pf1_yes {ks : List Int} {run cl sp : Int} {nm : ByteArray} {ff tt : Int} {e : Ez} (h : e.ru ≠ 0) : Pf ks run cl sp nm ff tt 1 e = (e.ru == run) := by
  show (decide (run ≠ 0) && decide (e.ru = run)) = _
  by_cases h2 : e.ru = run
  · rw [← h2]; simp [h]
  · simp [h2]
theorem pf3_no {ks : List Int} {run cl sp : Int} {nm : ByteArray} {ff tt : Int} {e : Ez} (h : e.cl = 0) : Pf ks run cl sp nm ff tt 3 e = false := by
  show (decide (cl ≠ 0) && decide (e.cl = cl)) = false
  by_cases h2 : cl = 0
  · simp [h2]
  · simp [h]; intro; omega
theorem pf3_yes {ks : List Int} {run cl sp : Int} {nm : ByteArray} {ff tt : Int} {e : Ez} (h : e.cl ≠ 0) : Pf ks run cl sp nm ff tt 3 e = (e.cl == cl) := by
  show (decide (cl ≠ 0) && decide (e.cl = cl)) = _
  by_cases h2 : e.cl = cl
  · rw [← h2]; simp [h]
  · simp [h2]
theorem xx_next (P : Nat → Ez → Bool) (L : List Ez) (j : Nat) : ∀ k, k < 5 → XX P L j 5 k = XX P L (j + 1) 0 k := fun k hk => by
  unfold XX
  rw [if_pos hk, if_neg (by omega)]
theorem fldK (w : World) (e : Ez) : (Instr.field 47 e.val 7).run Tryz.prog w = .ok (.agg #[.int .u16 e.sp, .string e.nm]) w := by kernel_rfl
theorem sl_ownR {w : World} {B n : Nat} {v : Value} {xs : List K} (h : w.ownsRow B 42 2 v n (Me.cellsK xs)) (hn : n = xs.length) : Un.Sl w v xs := by
  subst hn
  rcases h.2 with ⟨e1, h0⟩ | ⟨g, c, cur, e1, _⟩
  · subst e1
    exact Or.inl ⟨List.length_eq_zero_iff.1 h0, none, 0, rfl⟩
  · subst e1
    exact Or.inr ⟨g, 0, c, rfl, Un.owns_row h⟩
theorem sl_ds {w : World} {v : Value} {xs : List K} (h : Un.Sl w v xs) : Ds.Sl w v xs := by
  rcases h with h | ⟨b, off, cap, hv, hr⟩
  · exact Or.inl h
  · exact Or.inr ⟨b, off, cap, hv, hr.lt, hr.at0, hr.at1⟩
theorem sl_read {w : World} {v : Value} {xs : List K} (h : Ds.Sl w v xs) : ∃ a c, v = .slice a xs.length c ∧ ∀ i (h : i < xs.length), ∃ g off, a = some ⟨g, off, none⟩ ∧ w.cell? ⟨g, off + i * 2, none⟩ = some (.int .u16 xs[i].1) ∧ w.cell? ⟨g, off + i * 2 + 1, none⟩ = some (.string xs[i].2) := by
  rcases h with ⟨rfl, a, cap, rfl⟩ | ⟨b, off, cap, rfl, hr⟩
  · exact ⟨a, cap, rfl, fun i hi => absurd hi (Nat.not_lt_zero _)⟩
  · exact ⟨_, cap, rfl, fun i hi => ⟨b, off, rfl, hr.at0 i hi, hr.at1 i hi⟩⟩
theorem neRK (w : World) (sp : Int) (nm : ByteArray) : (binOp .neq 42 (.agg #[.int .u16 sp, .string nm]) (.agg #[.int .u16 sp, .string nm])).run Tryz.prog w = .ok (.bool false) w := by
  go_simp
theorem contains_snoc (ks : List Int) (m : Nat) (x kd : Int) (h : ks[m]? = some x) : (ks.take (m + 1)).contains kd = ((ks.take m).contains kd || (x == kd)) := by
  obtain ⟨hi, he⟩ := List.getElem?_eq_some_iff.1 h
  rw [List.take_succ_eq_append_getElem hi, he, Bool.eq_iff_iff]
  simp only [List.contains_iff_mem, List.mem_append, List.mem_singleton, Bool.or_eq_true, beq_iff_eq]
  constructor
  · rintro (h | h)
    · exact Or.inl h
    · exact Or.inr h.symm
  · rintro (h | h)
    · exact Or.inl h
    · exact Or.inr h.symm
theorem fx_new (w : World) : Fx w (sel5 (.slice (some ⟨w.heap.size, 0, none⟩) 0 0) (.slice (some ⟨w.heap.size + 1, 0, none⟩) 0 0) (.slice (some ⟨w.heap.size + 1 + 1, 0, none⟩) 0 0) (.slice (some ⟨w.heap.size + 1 + 1 + 1, 0, none⟩) 0 0) (.slice (some ⟨w.heap.size + 1 + 1 + 1 + 1, 0, none⟩) 0 0)) (w.heap.size + 1 + 1 + 1 + 1 + 1) (.slice (some ⟨w.heap.size + 1 + 1 + 1 + 1 + 1 + 1, 0, none⟩) 0 0) (fun _ => []) [] []
    (((((((w.alloc (.cells #[] 3)).alloc (.cells #[] 3)).alloc (.cells #[] 3)).alloc (.cells #[] 3)).alloc (.cells #[] 3)).alloc (.map #[] 0)).alloc (.cells #[] 42)) := by
  have mk : ∀ (W : World) (t k : Nat), w.heap.size ≤ W.heap.size → (W.alloc (.cells #[] t)).ownsRow w.heap.size t k (.slice (some ⟨W.heap.size, 0, none⟩) 0 0) 0 [] := fun W t k h => World.ownsRow_made (e := t) (size := k) W #[] 0 h (by unfold maxLen; omega) (by simp)
  have ta : ∀ (W : World) (o : Obj), Touch [] W (W.alloc o) := fun W o => (Touch.refl [] W).alloc o
  refine ⟨((((((ta _ _).alloc _).alloc _).alloc _).alloc _).alloc _).alloc _, fun i hi => ?_, fun i j hi hj hn q hq hv => ?_, by omega, ⟨[], List.nodup_nil, fun x => Iff.rfl, ?_⟩, ?_⟩
  · rcases (by omega : i = 0 ∨ i = 1 ∨ i = 2 ∨ i = 3 ∨ i = 4) with rfl | rfl | rfl | rfl | rfl
    · exact own_touch (mk w 3 1 (Nat.le_refl _)) ((((((ta _ _).alloc _).alloc _).alloc _).alloc _).alloc _) (by simp)
    · have h := mk (w.alloc (.cells #[] 3)) 3 1 (by simp)
      rw [World.size_alloc] at h
      exact own_touch h (((((ta _ _).alloc _).alloc _).alloc _).alloc _) (by simp)
    · have h := mk ((w.alloc (.cells #[] 3)).alloc (.cells #[] 3)) 3 1 (by simp; omega)
      simp only [World.size_alloc] at h
      exact own_touch h ((((ta _ _).alloc _).alloc _).alloc _) (by simp)
    · have h := mk (((w.alloc (.cells #[] 3)).alloc (.cells #[] 3)).alloc (.cells #[] 3)) 3 1 (by simp; omega)
      simp only [World.size_alloc] at h
      exact own_touch h (((ta _ _).alloc _).alloc _) (by simp)
    · have h := mk ((((w.alloc (.cells #[] 3)).alloc (.cells #[] 3)).alloc (.cells #[] 3)).alloc (.cells #[] 3)) 3 1 (by simp; omega)
      simp only [World.size_alloc] at h
      exact own_touch h ((ta _ _).alloc _) (by simp)
  · rcases (by omega : i = 0 ∨ i = 1 ∨ i = 2 ∨ i = 3 ∨ i = 4) with rfl | rfl | rfl | rfl | rfl <;> rcases (by omega : j = 0 ∨ j = 1 ∨ j = 2 ∨ j = 3 ∨ j = 4) with rfl | rfl | rfl | rfl | rfl <;> simp only [sel5, Value.ownBlock, Option.some.injEq] at hq hv <;> omega
  · have h := mapAt_made (((((w.alloc (.cells #[] 3)).alloc (.cells #[] 3)).alloc (.cells #[] 3)).alloc (.cells #[] 3)).alloc (.cells #[] 3))
    simp only [World.size_alloc] at h
    exact (h.kept ((ta _ _).block _ h.lt (by simp))).congr (fun k _ => by simp [setF])
  · have h := mk ((((((w.alloc (.cells #[] 3)).alloc (.cells #[] 3)).alloc (.cells #[] 3)).alloc (.cells #[] 3)).alloc (.cells #[] 3)).alloc (.map #[] 0)) 42 2 (by simp; omega)
    simp only [World.size_alloc] at h
    exact h
set_option maxHeartbeats 16000000 in
set_option maxRecDepth 20000 in
theorem finds_ (w : World) (a0 : Option Addr) (m : Nat) (l : List Ez) (a : Option Addr) (c : Nat) (ks : List Int) (run cl sp : Int) (nm : ByteArray) (ff tt : Int) (hx : ∀ i e, l[i]? = some e → ∃ g off, a0 = some ⟨g, off, none⟩ ∧ Rc w g (off + i * 13) e) (hok : ∀ e ∈ l, e.ok) (hl : l.length ≤ 2000000000000) (hk : Tk w) (hks : KRow w a ks) (hkl : ks.length ≤ 17592186043904) :
    Calls Tryz.prog 3 #[.slice a0 l.length m, .agg #[.slice a ks.length c, .int .i64 run, .int .i64 cl, .int .u16 sp, .string nm, .int .i64 ff, .int .i64 tt]] w fun r w' => r = .returned (.bool true) ∧ Touch [] w w' := by
  obtain ⟨W0, hW0⟩ : ∃ W0, W0 = w.alloc (.cells #[.slice a ks.length c, .int .i64 run, .int .i64 cl, .int .u16 sp, .string nm, .int .i64 ff, .int .i64 tt] 28) := ⟨_, rfl⟩
  have tW : Touch [] w W0 := by rw [hW0]; exact (Touch.refl [] w).alloc _
  obtain ⟨ka, hka⟩ : ∃ ka, ka = w.heap.size := ⟨_, rfl⟩
  have hbx : Kc W0 ka (.slice a ks.length c) run cl sp nm ff tt := by rw [hW0, hka]; constructor <;> simp
  have HBu := hid (built_ W0 a0 m l (fun i e he => by obtain ⟨g, off, e1, h⟩ := hx i e he; exact ⟨g, off, e1, h.touch tW⟩) (fun e he => (hok e he).nm) hl (hk.touch tW))
  have HTK := hid hk
  have HtW := hid tW
  have Hbx := hid hbx
  have HKs : Hid (∀ w', Touch [] w w' → KRow w' a ks) := hid (fun w' t i h => by obtain ⟨b, off, e1, h1⟩ := hks i h; exact ⟨b, off, e1, tcell t h1⟩)
  have HKl := hid hkl
  have HOK : Hid (∀ e ∈ bl l, e.ok ∧ isK e.kd = true) := hid (fun e he => ⟨hok e (bl_mem l e he).1, chk_isK (bl_mem l e he).2⟩)
  generalize l.length = ll at *
  clear hx hok hl hk tW hbx hks hkl
  go_enter Tryz.func3, Tryz.ntmps3
  go_wp2_with fail
  rw [← hW0, ← hka]
  clear hW0 hka
  refine Calls.mono HBu.out ?_
  rintro r w1 ⟨b, v, a6, n, c6, z0, rfl, hn, hB⟩
  clear HBu
  obtain ⟨L, hL⟩ : ∃ L, L = bl l := ⟨_, rfl⟩
  rw [← hL] at hn hB HOK
  clear hL
  have HA := hid (fun w' (t : Touch [] w w') => awake_ w' (HTK.out.touch t))
  have HT1 := hid (HtW.out.trans' hB.t)
  have HB := hid hB
  have HnL := hid hn
  have HLn : Hid (L.length ≤ 1048576) := hid hB.q.le
  unfold PT
  clear hB hn
  go_wp2_with fail
  refine (HA.out _ HT1.out).mono ?_
  rintro r w2 ⟨rfl, t2⟩
  have HB2 := hid (HB.out.touch0 t2)
  have HT2 := hid (HtW.out.trans' HB2.out.t)
  have HKA : Hid (∀ w', Touch [] w2 w' → Kc w' ka (.slice a ks.length c) run cl sp nm ff tt) := hid (fun w' t => Hbx.out.touch (HB2.out.t.trans' t))
  have HK2 : Hid (∀ w', Touch [] w2 w' → KRow w' a ks) := hid (fun w' t => HKs.out w' (HT2.out.trans' t))
  have HTk2 : Hid (∀ w', Touch [] w2 w' → Tk w') := hid (fun w' t => HTK.out.touch (HT2.out.trans' t))
  have I0 := hid (fx_new w2)
  clear t2 HB HT1 HA HtW Hbx HKs HTK
  obtain ⟨NL, hNL⟩ : ∃ NL : Int, (n : Int) = NL := ⟨_, rfl⟩
  have HNL := hid hNL
  have hNb : NL ≤ 1048576 := by have := HnL.out; have := HLn.out; omega
  obtain ⟨KL, hKL⟩ : ∃ KL : Int, (ks.length : Int) = KL := ⟨_, rfl⟩
  have hKb : KL ≤ 17592186043904 := by have := HKl.out; omega
  have hmm := @run_makeMap Tryz.prog
  go_wp2_with fail
  clear hmm
  generalize w2.heap.size + 1 + 1 + 1 + 1 + 1 = mb at *
  generalize (((((((w2.alloc (.cells #[] 3)).alloc (.cells #[] 3)).alloc (.cells #[] 3)).alloc (.cells #[] 3)).alloc (.cells #[] 3)).alloc (.map #[] 0)).alloc (.cells #[] 42)) = V0 at *
  go_loopw [8, 9, 10, 11, 12, 14, 47] (fun u8 u9 u10 u11 u12 z i wr => ∃ j : Nat, i = .int .i64 j ∧ j ≤ n ∧ Hid (Fx w2 (sel5 u8 u9 u10 u11 u12) mb z (XX (Pf ks run cl sp nm ff tt) L j 0) (ruL (L.take j)) (keL (L.take j)) wr)) (fun _ _ _ _ _ _ i _ => n - (intOf i).toNat)
  case atStart => exact ⟨0, rfl, Nat.zero_le _, hid (I0.out.congr (fun _ _ => rfl) (fun k hk => by unfold XX plc; simp))⟩
  case round =>
    obtain ⟨j, rfl, hj, HF⟩ := hrel
    clear I0
    obtain ⟨wo, rfl⟩ : ∃ wo, wo = wr := ⟨_, rfl⟩
    by_cases hlt : j < n
    · have hz : (j : Int) < NL := by omega
      obtain ⟨e, he⟩ : ∃ e, L[j]? = some e := ⟨_, List.getElem?_eq_getElem (by rw [HnL.out]; exact hlt)⟩
      have He := hid he
      have hrow := own_touch HB2.out.ou HF.out.t (by simp)
      rw [HnL.out] at hrow
      obtain ⟨g, c', e1, _, hg⟩ := own_some hrow (by omega)
      simp only [Value.slice.injEq] at e1
      obtain ⟨rfl, -, rfl⟩ := e1
      obtain ⟨p0, p1, p2, p3, p4, p5, p6, p7, p8, p9, p10, p11, p12⟩ := rc_own hrow he
      clear he hrow
      go_upto_region 9 with fail
      obtain ⟨k0, hk0⟩ : ∃ k0, k0 = wo.heap.size := ⟨_, rfl⟩
      obtain ⟨WC, hWC⟩ : ∃ WC, WC = wo.alloc (.cells #[.int .i64 e.at_, .int .i64 e.kd, .int .i64 e.cl, .int .i64 e.ca, .int .i64 e.ru, .int .i64 e.ge, .int .i64 e.ho, .int .u16 e.sp, .string e.nm, .int .i64 e.va, .int .i64 e.fk, .int .i64 e.fc, .int .i64 e.fr] 40) := ⟨_, rfl⟩
      have H : Hid (Fx w2 (sel5 u8 u9 u10 u11 u12) mb u14 (XX (Pf ks run cl sp nm ff tt) L j 0) (ruL (L.take j)) (keL (L.take j)) WC ∧ WC.heap[k0]? = some (.cells #[.int .i64 e.at_, .int .i64 e.kd, .int .i64 e.cl, .int .i64 e.ca, .int .i64 e.ru, .int .i64 e.ge, .int .i64 e.ho, .int .u16 e.sp, .string e.nm, .int .i64 e.va, .int .i64 e.fk, .int .i64 e.fc, .int .i64 e.fr] 40 (0, 0))) := by
        rw [hWC, hk0]
        exact hid ⟨HF.out.touch ((Touch.refl [] wo).alloc _), heap_alloc_new wo _⟩
      rw [← hWC, ← hk0]
      clear hWC hk0 p0 p1 p2 p3 p4 p5 p6 p7 p8 p9 p10 p11 p12 hg HF
      obtain ⟨k0', k1', k2', k3', k4', k5', k6'⟩ := HKA.out _ H.out.1.t
      have dk := cell_at (j := 1) H.out.2 rfl
      have hd := block_lt H.out.2
      go_upto_block 2 with fail
      go_cut [17] from 49 to 144 (fun t wx => t = .bool (ks.contains e.kd) ∧ wx = WC)
      case first =>
        have HC1 : Hid _ := contains_snoc ks
        go_wp2_with fail
        go_loopw [17, 55] (fun t i wr => ∃ mm : Nat, i = .int .i64 mm ∧ mm ≤ ks.length ∧ t = .bool ((ks.take mm).contains e.kd) ∧ wr = WC) (fun _ i _ => ks.length - (intOf i).toNat)
        case atStart => exact ⟨0, rfl, Nat.zero_le _, by simp, rfl⟩
        case round =>
          obtain ⟨mm, rfl, hmm, rfl, hwr⟩ := hrel
          rw [hwr]
          clear hwr
          by_cases hlm : mm < ks.length
          · have hq : (mm : Int) < KL := by omega
            obtain ⟨gb, off, rfl, cx⟩ := HK2.out _ H.out.1.t mm hlm
            have hsn := HC1.out mm ks[mm] e.kd (List.getElem?_eq_getElem hlm)
            obtain ⟨x, hx⟩ : ∃ x, ks[mm] = x := ⟨_, rfl⟩
            rw [hx] at cx hsn
            have HSn := hid hsn
            clear hx hsn
            generalize (ks.take mm).contains e.kd = q at *
            cases q with
            | true =>
              go_wp2_with fail
              go_roundw
              case rel => exact ⟨mm + 1, by go_num, by omega, by rw [HSn.out]; rfl, by first | rfl | trivial⟩
              case measure => simp [intOf]; omega
            | false =>
              go_wp2_with fail
              go_roundw
              case rel => exact ⟨mm + 1, by go_num, by omega, by rw [HSn.out]; rfl, by first | rfl | trivial⟩
              case measure => simp [intOf]; omega
          · have hq : ¬ (mm : Int) < KL := by omega
            have e2 : Hid (ks.take mm = ks) := hid (List.take_of_length_le (by omega))
            go_wp2_with fail
            go_meet
            case rel => exact ⟨by simp [e2.out], by first | rfl | trivial⟩
      case rest =>
        obtain ⟨rfl, hwc⟩ := hcut
        rw [hwc]
        clear hwc k0' k1' k2' k3' k4' k5' k6' dk hd
        obtain ⟨p, hp⟩ : ∃ p, ks.contains e.kd = p := ⟨_, rfl⟩
        have Hp : Hid ((Pf ks run cl sp nm ff tt) 0 e = p) := hp
        rw [hp]
        clear hp
        go_upto_if 67 with fail
        go_cut [8] from 49 to 144 (fun t wx => Hid (Fx w2 (sel5 t u9 u10 u11 u12) mb u14 (XX (Pf ks run cl sp nm ff tt) L j 1) (ruL (L.take j)) (keL (L.take j)) wx ∧ wx.heap[k0]? = some (.cells #[.int .i64 e.at_, .int .i64 e.kd, .int .i64 e.cl, .int .i64 e.ca, .int .i64 e.ru, .int .i64 e.ge, .int .i64 e.ho, .int .u16 e.sp, .string e.nm, .int .i64 e.va, .int .i64 e.fk, .int .i64 e.fc, .int .i64 e.fr] 40 (0, 0))))
        case first =>
          cases p with
          | false =>
            go_wp2_with fail
            go_meet
            case rel => exact hid ⟨H.out.1.congr (fun _ _ => rfl) (xx_no He.out Hp.out), H.out.2⟩
          | true =>
            have ho := H.out.1.own 0 (by decide)
            have ho2 : WC.ownsRow w2.heap.size 3 1 u8 (XX (Pf ks run cl sp nm ff tt) L j 0 0).length (ints (XX (Pf ks run cl sp nm ff tt) L j 0 0)) := ho
            obtain ⟨sa, sc, eu⟩ := own_form ho2
            have hln := Nat.le_trans (xx_len (Pf ks run cl sp nm ff tt) L j 0 0) HLn.out
            obtain ⟨ns, hns⟩ : ∃ ns, (XX (Pf ks run cl sp nm ff tt) L j 0 0).length = ns := ⟨_, rfl⟩
            rw [hns] at ho2 eu hln
            subst eu
            have HO := hid ho2
            have HNs := hid hns
            have HLs := hid hln
            have TN : Hid (Touch [] WC (WC.alloc (.cells #[.int .i64 j] 3))) := (Touch.refl [] WC).alloc _
            have HBd := hid H.out.1.t.size
            clear ho ho2 hns hln
            go_wp2_with (at_builtin; refine wpList_append_rs rfl _ _ 23 3 rfl _ 1 8 info3 Tryz.underlying23 rfl (by decide) w2.heap.size (.slice sa ns sc) ns (ints (XX (Pf ks run cl sp nm ff tt) L j 0 0)) rfl (own_touch HO.out TN.out (by simp)) (.slice (some ⟨WC.heap.size, 0, none⟩) 1 1) 1 [.int .i64 j] rfl (Rs.new WC #[.int .i64 j] 3 1 rfl) (by simp [Value.oneCell']) (by have := HLs.out; unfold maxLen; omega) (by have := HLs.out; omega) (by have := HBd.out; simp; omega) ?_; intro v6 w6 o6 g6 p6; have A6 := hid (H.out.1.app (i := 0) (x := (j : Int)) (by decide) TN.out (HNs.out.symm ▸ o6) g6 p6); have B6 : Hid (w6.heap[k0]? = some (.cells #[.int .i64 e.at_, .int .i64 e.kd, .int .i64 e.cl, .int .i64 e.ca, .int .i64 e.ru, .int .i64 e.ge, .int .i64 e.ho, .int .u16 e.sp, .string e.nm, .int .i64 e.va, .int .i64 e.fk, .int .i64 e.fc, .int .i64 e.fr] 40 (0, 0))) := hid (((Touch.refl _ _).grown g6 (fun q hq => Or.inl (by simp [hq]))).keep (F := (Value.slice sa ns sc).ownBlock.toList) (TN.out.keep H.out.2 (by simp)) (fun hm => kind_ne HO.out H.out.2 (by decide) (Option.mem_toList.1 hm))); clear o6 g6 p6)
            go_meet
            case rel => exact hid ⟨A6.out.congr (fun k hk => by rcases (by omega : k = 0 ∨ k = 1 ∨ k = 2 ∨ k = 3 ∨ k = 4) with rfl | rfl | rfl | rfl | rfl <;> rfl) (xx_yes He.out Hp.out), B6.out⟩
        case rest =>
          rename World => WD1
          clear H Hp
          have H := hcut
          clear hcut
          have EBc := H.out.2
          have d0 := cell_at (j := 0) EBc rfl
          have d1 := cell_at (j := 1) EBc rfl
          have d2 := cell_at (j := 2) EBc rfl
          have d3 := cell_at (j := 3) EBc rfl
          have d4 := cell_at (j := 4) EBc rfl
          have d5 := cell_at (j := 5) EBc rfl
          have d6 := cell_at (j := 6) EBc rfl
          have d7 := cell_at (j := 7) EBc rfl
          have d8 := cell_at (j := 8) EBc rfl
          have d9 := cell_at (j := 9) EBc rfl
          have d10 := cell_at (j := 10) EBc rfl
          have d11 := cell_at (j := 11) EBc rfl
          have d12 := cell_at (j := 12) EBc rfl
          have hd := block_lt EBc
          clear EBc
          obtain ⟨k0', k1', k2', k3', k4', k5', k6'⟩ := HKA.out _ H.out.1.t
          have HNm : Hid (∀ w', Calls Tryz.prog 6 #[.int .i64 e.kd, .int .u8 107] w' fun r w'' => r = .returned (.bool (nmB e.kd 107)) ∧ w'' = w') := hid (fun w' => by have h5 := rnamed_ e.kd 107 w'; rw [has_nm e.kd 107 (by omega)] at h5; exact h5)
          go_upto_region 17 with fail
          go_cut [81] from 49 to 144 (fun t wx => t = .bool ((Pf ks run cl sp nm ff tt) 1 e) ∧ wx = WD1)
          case first =>
            by_cases h0 : e.ru = 0
            · have h1 : (e.ru != 0) = false := by simp [h0]
              have H0 := hid h0
              clear h0
              go_wp2_with fail
              go_meet
              case rel => exact ⟨by rw [pf1_no H0.out], by first | rfl | trivial⟩
            · have h1 : (e.ru != 0) = true := by simp [h0]
              have H0 := hid h0
              clear h0
              go_wp2_with fail
              go_meet
              case rel => exact ⟨by rw [pf1_yes H0.out], by first | rfl | trivial⟩
          case rest =>
            obtain ⟨rfl, hwc⟩ := hcut
            rw [hwc]
            clear hwc HNm d0 d1 d2 d3 d4 d5 d6 d7 d8 d9 d10 d11 d12 hd k0' k1' k2' k3' k4' k5' k6'
            obtain ⟨p, hp⟩ : ∃ p, (Pf ks run cl sp nm ff tt) 1 e = p := ⟨_, rfl⟩
            have Hp : Hid ((Pf ks run cl sp nm ff tt) 1 e = p) := hp
            rw [hp]
            clear hp
            go_upto_if 81 with fail
            go_cut [9] from 49 to 144 (fun t wx => Hid (Fx w2 (sel5 u8 t u10 u11 u12) mb u14 (XX (Pf ks run cl sp nm ff tt) L j 2) (ruL (L.take j)) (keL (L.take j)) wx ∧ wx.heap[k0]? = some (.cells #[.int .i64 e.at_, .int .i64 e.kd, .int .i64 e.cl, .int .i64 e.ca, .int .i64 e.ru, .int .i64 e.ge, .int .i64 e.ho, .int .u16 e.sp, .string e.nm, .int .i64 e.va, .int .i64 e.fk, .int .i64 e.fc, .int .i64 e.fr] 40 (0, 0))))
            case first =>
              cases p with
              | false =>
                go_wp2_with fail
                go_meet
                case rel => exact hid ⟨H.out.1.congr (fun _ _ => rfl) (xx_no He.out Hp.out), H.out.2⟩
              | true =>
                have ho := H.out.1.own 1 (by decide)
                have ho2 : WD1.ownsRow w2.heap.size 3 1 u9 (XX (Pf ks run cl sp nm ff tt) L j 1 1).length (ints (XX (Pf ks run cl sp nm ff tt) L j 1 1)) := ho
                obtain ⟨sa, sc, eu⟩ := own_form ho2
                have hln := Nat.le_trans (xx_len (Pf ks run cl sp nm ff tt) L j 1 1) HLn.out
                obtain ⟨ns, hns⟩ : ∃ ns, (XX (Pf ks run cl sp nm ff tt) L j 1 1).length = ns := ⟨_, rfl⟩
                rw [hns] at ho2 eu hln
                subst eu
                have HO := hid ho2
                have HNs := hid hns
                have HLs := hid hln
                have TN : Hid (Touch [] WD1 (WD1.alloc (.cells #[.int .i64 j] 3))) := (Touch.refl [] WD1).alloc _
                have HBd := hid H.out.1.t.size
                clear ho ho2 hns hln
                go_wp2_with (at_builtin; refine wpList_append_rs rfl _ _ 23 3 rfl _ 1 8 info3 Tryz.underlying23 rfl (by decide) w2.heap.size (.slice sa ns sc) ns (ints (XX (Pf ks run cl sp nm ff tt) L j 1 1)) rfl (own_touch HO.out TN.out (by simp)) (.slice (some ⟨WD1.heap.size, 0, none⟩) 1 1) 1 [.int .i64 j] rfl (Rs.new WD1 #[.int .i64 j] 3 1 rfl) (by simp [Value.oneCell']) (by have := HLs.out; unfold maxLen; omega) (by have := HLs.out; omega) (by have := HBd.out; simp; omega) ?_; intro v6 w6 o6 g6 p6; have A6 := hid (H.out.1.app (i := 1) (x := (j : Int)) (by decide) TN.out (HNs.out.symm ▸ o6) g6 p6); have B6 : Hid (w6.heap[k0]? = some (.cells #[.int .i64 e.at_, .int .i64 e.kd, .int .i64 e.cl, .int .i64 e.ca, .int .i64 e.ru, .int .i64 e.ge, .int .i64 e.ho, .int .u16 e.sp, .string e.nm, .int .i64 e.va, .int .i64 e.fk, .int .i64 e.fc, .int .i64 e.fr] 40 (0, 0))) := hid (((Touch.refl _ _).grown g6 (fun q hq => Or.inl (by simp [hq]))).keep (F := (Value.slice sa ns sc).ownBlock.toList) (TN.out.keep H.out.2 (by simp)) (fun hm => kind_ne HO.out H.out.2 (by decide) (Option.mem_toList.1 hm))); clear o6 g6 p6)
                go_meet
                case rel => exact hid ⟨A6.out.congr (fun k hk => by rcases (by omega : k = 0 ∨ k = 1 ∨ k = 2 ∨ k = 3 ∨ k = 4) with rfl | rfl | rfl | rfl | rfl <;> rfl) (xx_yes He.out Hp.out), B6.out⟩
            case rest =>
              rename World => WD2
              clear H Hp
              have H := hcut
              clear hcut
              have EBc := H.out.2
              have d0 := cell_at (j := 0) EBc rfl
              have d1 := cell_at (j := 1) EBc rfl
              have d2 := cell_at (j := 2) EBc rfl
              have d3 := cell_at (j := 3) EBc rfl
              have d4 := cell_at (j := 4) EBc rfl
              have d5 := cell_at (j := 5) EBc rfl
              have d6 := cell_at (j := 6) EBc rfl
              have d7 := cell_at (j := 7) EBc rfl
              have d8 := cell_at (j := 8) EBc rfl
              have d9 := cell_at (j := 9) EBc rfl
              have d10 := cell_at (j := 10) EBc rfl
              have d11 := cell_at (j := 11) EBc rfl
              have d12 := cell_at (j := 12) EBc rfl
              have hd := block_lt EBc
              clear EBc
              obtain ⟨k0', k1', k2', k3', k4', k5', k6'⟩ := HKA.out _ H.out.1.t
              have HNm : Hid (∀ w', Calls Tryz.prog 6 #[.int .i64 e.kd, .int .u8 107] w' fun r w'' => r = .returned (.bool (nmB e.kd 107)) ∧ w'' = w') := hid (fun w' => by have h5 := rnamed_ e.kd 107 w'; rw [has_nm e.kd 107 (by omega)] at h5; exact h5)
              go_upto_region 19 with fail
              go_cut [95] from 49 to 144 (fun t wx => t = .bool ((Pf ks run cl sp nm ff tt) 2 e) ∧ wx = WD2)
              case first =>
                have hq := fun w' => eqK w' e.sp e.nm sp nm
                obtain ⟨q1, hq1⟩ : ∃ q1, nmB e.kd 107 = q1 := ⟨_, rfl⟩
                obtain ⟨q2, hq2⟩ : ∃ q2, keqB e.sp e.nm sp nm = q2 := ⟨_, rfl⟩
                have HQ : Hid ((Pf ks run cl sp nm ff tt) 2 e = (q1 && q2)) := hid (by rw [← hq1, ← hq2]; rfl)
                rw [hq1] at HNm
                rw [hq2] at hq
                clear hq1 hq2
                cases q1 with
                | false =>
                  go_wp2_with (go_at_call 6; refine (HNm.out _).mono ?_; rintro r wq ⟨rfl, e1⟩; rw [e1]; clear e1 wq)
                  go_meet
                  case rel => exact ⟨by rw [HQ.out]; rfl, by first | rfl | trivial⟩
                | true =>
                  go_wp2_with (go_at_call 6; refine (HNm.out _).mono ?_; rintro r wq ⟨rfl, e1⟩; rw [e1]; clear e1 wq)
                  go_meet
                  case rel => exact ⟨by rw [HQ.out]; rfl, by first | rfl | trivial⟩
              case rest =>
                obtain ⟨rfl, hwc⟩ := hcut
                rw [hwc]
                clear hwc HNm d0 d1 d2 d3 d4 d5 d6 d7 d8 d9 d10 d11 d12 hd k0' k1' k2' k3' k4' k5' k6'
                obtain ⟨p, hp⟩ : ∃ p, (Pf ks run cl sp nm ff tt) 2 e = p := ⟨_, rfl⟩
                have Hp : Hid ((Pf ks run cl sp nm ff tt) 2 e = p) := hp
                rw [hp]
                clear hp
                go_upto_if 95 with fail
                go_cut [10] from 49 to 144 (fun t wx => Hid (Fx w2 (sel5 u8 u9 t u11 u12) mb u14 (XX (Pf ks run cl sp nm ff tt) L j 3) (ruL (L.take j)) (keL (L.take j)) wx ∧ wx.heap[k0]? = some (.cells #[.int .i64 e.at_, .int .i64 e.kd, .int .i64 e.cl, .int .i64 e.ca, .int .i64 e.ru, .int .i64 e.ge, .int .i64 e.ho, .int .u16 e.sp, .string e.nm, .int .i64 e.va, .int .i64 e.fk, .int .i64 e.fc, .int .i64 e.fr] 40 (0, 0))))
                case first =>
                  cases p with
                  | false =>
                    go_wp2_with fail
                    go_meet
                    case rel => exact hid ⟨H.out.1.congr (fun _ _ => rfl) (xx_no He.out Hp.out), H.out.2⟩
                  | true =>
                    have ho := H.out.1.own 2 (by decide)
                    have ho2 : WD2.ownsRow w2.heap.size 3 1 u10 (XX (Pf ks run cl sp nm ff tt) L j 2 2).length (ints (XX (Pf ks run cl sp nm ff tt) L j 2 2)) := ho
                    obtain ⟨sa, sc, eu⟩ := own_form ho2
                    have hln := Nat.le_trans (xx_len (Pf ks run cl sp nm ff tt) L j 2 2) HLn.out
                    obtain ⟨ns, hns⟩ : ∃ ns, (XX (Pf ks run cl sp nm ff tt) L j 2 2).length = ns := ⟨_, rfl⟩
                    rw [hns] at ho2 eu hln
                    subst eu
                    have HO := hid ho2
                    have HNs := hid hns
                    have HLs := hid hln
                    have TN : Hid (Touch [] WD2 (WD2.alloc (.cells #[.int .i64 j] 3))) := (Touch.refl [] WD2).alloc _
                    have HBd := hid H.out.1.t.size
                    clear ho ho2 hns hln
                    go_wp2_with (at_builtin; refine wpList_append_rs rfl _ _ 23 3 rfl _ 1 8 info3 Tryz.underlying23 rfl (by decide) w2.heap.size (.slice sa ns sc) ns (ints (XX (Pf ks run cl sp nm ff tt) L j 2 2)) rfl (own_touch HO.out TN.out (by simp)) (.slice (some ⟨WD2.heap.size, 0, none⟩) 1 1) 1 [.int .i64 j] rfl (Rs.new WD2 #[.int .i64 j] 3 1 rfl) (by simp [Value.oneCell']) (by have := HLs.out; unfold maxLen; omega) (by have := HLs.out; omega) (by have := HBd.out; simp; omega) ?_; intro v6 w6 o6 g6 p6; have A6 := hid (H.out.1.app (i := 2) (x := (j : Int)) (by decide) TN.out (HNs.out.symm ▸ o6) g6 p6); have B6 : Hid (w6.heap[k0]? = some (.cells #[.int .i64 e.at_, .int .i64 e.kd, .int .i64 e.cl, .int .i64 e.ca, .int .i64 e.ru, .int .i64 e.ge, .int .i64 e.ho, .int .u16 e.sp, .string e.nm, .int .i64 e.va, .int .i64 e.fk, .int .i64 e.fc, .int .i64 e.fr] 40 (0, 0))) := hid (((Touch.refl _ _).grown g6 (fun q hq => Or.inl (by simp [hq]))).keep (F := (Value.slice sa ns sc).ownBlock.toList) (TN.out.keep H.out.2 (by simp)) (fun hm => kind_ne HO.out H.out.2 (by decide) (Option.mem_toList.1 hm))); clear o6 g6 p6)
                    go_meet
                    case rel => exact hid ⟨A6.out.congr (fun k hk => by rcases (by omega : k = 0 ∨ k = 1 ∨ k = 2 ∨ k = 3 ∨ k = 4) with rfl | rfl | rfl | rfl | rfl <;> rfl) (xx_yes He.out Hp.out), B6.out⟩
                case rest =>
                  rename World => WD3
                  clear H Hp
                  have H := hcut
                  clear hcut
                  have EBc := H.out.2
                  have d0 := cell_at (j := 0) EBc rfl
                  have d1 := cell_at (j := 1) EBc rfl
                  have d2 := cell_at (j := 2) EBc rfl
                  have d3 := cell_at (j := 3) EBc rfl
                  have d4 := cell_at (j := 4) EBc rfl
                  have d5 := cell_at (j := 5) EBc rfl
                  have d6 := cell_at (j := 6) EBc rfl
                  have d7 := cell_at (j := 7) EBc rfl
                  have d8 := cell_at (j := 8) EBc rfl
                  have d9 := cell_at (j := 9) EBc rfl
                  have d10 := cell_at (j := 10) EBc rfl
                  have d11 := cell_at (j := 11) EBc rfl
                  have d12 := cell_at (j := 12) EBc rfl
                  have hd := block_lt EBc
                  clear EBc
                  obtain ⟨k0', k1', k2', k3', k4', k5', k6'⟩ := HKA.out _ H.out.1.t
                  have HNm : Hid (∀ w', Calls Tryz.prog 6 #[.int .i64 e.kd, .int .u8 107] w' fun r w'' => r = .returned (.bool (nmB e.kd 107)) ∧ w'' = w') := hid (fun w' => by have h5 := rnamed_ e.kd 107 w'; rw [has_nm e.kd 107 (by omega)] at h5; exact h5)
                  go_upto_region 21 with fail
                  go_cut [109] from 49 to 144 (fun t wx => t = .bool ((Pf ks run cl sp nm ff tt) 3 e) ∧ wx = WD3)
                  case first =>
                    by_cases h0 : e.cl = 0
                    · have h1 : (e.cl != 0) = false := by simp [h0]
                      have H0 := hid h0
                      clear h0
                      go_wp2_with fail
                      go_meet
                      case rel => exact ⟨by rw [pf3_no H0.out], by first | rfl | trivial⟩
                    · have h1 : (e.cl != 0) = true := by simp [h0]
                      have H0 := hid h0
                      clear h0
                      go_wp2_with fail
                      go_meet
                      case rel => exact ⟨by rw [pf3_yes H0.out], by first | rfl | trivial⟩
                  case rest =>
                    obtain ⟨rfl, hwc⟩ := hcut
                    rw [hwc]
                    clear hwc HNm d0 d1 d2 d3 d4 d5 d6 d7 d8 d9 d10 d11 d12 hd k0' k1' k2' k3' k4' k5' k6'
                    obtain ⟨p, hp⟩ : ∃ p, (Pf ks run cl sp nm ff tt) 3 e = p := ⟨_, rfl⟩
                    have Hp : Hid ((Pf ks run cl sp nm ff tt) 3 e = p) := hp
                    rw [hp]
                    clear hp
                    go_upto_if 109 with fail
                    go_cut [11] from 49 to 144 (fun t wx => Hid (Fx w2 (sel5 u8 u9 u10 t u12) mb u14 (XX (Pf ks run cl sp nm ff tt) L j 4) (ruL (L.take j)) (keL (L.take j)) wx ∧ wx.heap[k0]? = some (.cells #[.int .i64 e.at_, .int .i64 e.kd, .int .i64 e.cl, .int .i64 e.ca, .int .i64 e.ru, .int .i64 e.ge, .int .i64 e.ho, .int .u16 e.sp, .string e.nm, .int .i64 e.va, .int .i64 e.fk, .int .i64 e.fc, .int .i64 e.fr] 40 (0, 0))))
                    case first =>
                      cases p with
                      | false =>
                        go_wp2_with fail
                        go_meet
                        case rel => exact hid ⟨H.out.1.congr (fun _ _ => rfl) (xx_no He.out Hp.out), H.out.2⟩
                      | true =>
                        have ho := H.out.1.own 3 (by decide)
                        have ho2 : WD3.ownsRow w2.heap.size 3 1 u11 (XX (Pf ks run cl sp nm ff tt) L j 3 3).length (ints (XX (Pf ks run cl sp nm ff tt) L j 3 3)) := ho
                        obtain ⟨sa, sc, eu⟩ := own_form ho2
                        have hln := Nat.le_trans (xx_len (Pf ks run cl sp nm ff tt) L j 3 3) HLn.out
                        obtain ⟨ns, hns⟩ : ∃ ns, (XX (Pf ks run cl sp nm ff tt) L j 3 3).length = ns := ⟨_, rfl⟩
                        rw [hns] at ho2 eu hln
                        subst eu
                        have HO := hid ho2
                        have HNs := hid hns
                        have HLs := hid hln
                        have TN : Hid (Touch [] WD3 (WD3.alloc (.cells #[.int .i64 j] 3))) := (Touch.refl [] WD3).alloc _
                        have HBd := hid H.out.1.t.size
                        clear ho ho2 hns hln
                        go_wp2_with (at_builtin; refine wpList_append_rs rfl _ _ 23 3 rfl _ 1 8 info3 Tryz.underlying23 rfl (by decide) w2.heap.size (.slice sa ns sc) ns (ints (XX (Pf ks run cl sp nm ff tt) L j 3 3)) rfl (own_touch HO.out TN.out (by simp)) (.slice (some ⟨WD3.heap.size, 0, none⟩) 1 1) 1 [.int .i64 j] rfl (Rs.new WD3 #[.int .i64 j] 3 1 rfl) (by simp [Value.oneCell']) (by have := HLs.out; unfold maxLen; omega) (by have := HLs.out; omega) (by have := HBd.out; simp; omega) ?_; intro v6 w6 o6 g6 p6; have A6 := hid (H.out.1.app (i := 3) (x := (j : Int)) (by decide) TN.out (HNs.out.symm ▸ o6) g6 p6); have B6 : Hid (w6.heap[k0]? = some (.cells #[.int .i64 e.at_, .int .i64 e.kd, .int .i64 e.cl, .int .i64 e.ca, .int .i64 e.ru, .int .i64 e.ge, .int .i64 e.ho, .int .u16 e.sp, .string e.nm, .int .i64 e.va, .int .i64 e.fk, .int .i64 e.fc, .int .i64 e.fr] 40 (0, 0))) := hid (((Touch.refl _ _).grown g6 (fun q hq => Or.inl (by simp [hq]))).keep (F := (Value.slice sa ns sc).ownBlock.toList) (TN.out.keep H.out.2 (by simp)) (fun hm => kind_ne HO.out H.out.2 (by decide) (Option.mem_toList.1 hm))); clear o6 g6 p6)
                        go_meet
                        case rel => exact hid ⟨A6.out.congr (fun k hk => by rcases (by omega : k = 0 ∨ k = 1 ∨ k = 2 ∨ k = 3 ∨ k = 4) with rfl | rfl | rfl | rfl | rfl <;> rfl) (xx_yes He.out Hp.out), B6.out⟩
                    case rest =>
                      rename World => WD4
                      clear H Hp
                      have H := hcut
                      clear hcut
                      have EBc := H.out.2
                      have d0 := cell_at (j := 0) EBc rfl
                      have d1 := cell_at (j := 1) EBc rfl
                      have d2 := cell_at (j := 2) EBc rfl
                      have d3 := cell_at (j := 3) EBc rfl
                      have d4 := cell_at (j := 4) EBc rfl
                      have d5 := cell_at (j := 5) EBc rfl
                      have d6 := cell_at (j := 6) EBc rfl
                      have d7 := cell_at (j := 7) EBc rfl
                      have d8 := cell_at (j := 8) EBc rfl
                      have d9 := cell_at (j := 9) EBc rfl
                      have d10 := cell_at (j := 10) EBc rfl
                      have d11 := cell_at (j := 11) EBc rfl
                      have d12 := cell_at (j := 12) EBc rfl
                      have hd := block_lt EBc
                      clear EBc
                      obtain ⟨k0', k1', k2', k3', k4', k5', k6'⟩ := HKA.out _ H.out.1.t
                      have HNm : Hid (∀ w', Calls Tryz.prog 6 #[.int .i64 e.kd, .int .u8 107] w' fun r w'' => r = .returned (.bool (nmB e.kd 107)) ∧ w'' = w') := hid (fun w' => by have h5 := rnamed_ e.kd 107 w'; rw [has_nm e.kd 107 (by omega)] at h5; exact h5)
                      go_upto_region 23 with fail
                      go_cut [125] from 49 to 144 (fun t wx => t = .bool ((Pf ks run cl sp nm ff tt) 4 e) ∧ wx = WD4)
                      case first =>
                        by_cases h0 : ff ≤ e.at_
                        · have HQ : Hid ((Pf ks run cl sp nm ff tt) 4 e = decide (e.at_ ≤ tt)) := hid (by show (decide (ff ≤ e.at_) && decide (e.at_ ≤ tt)) = _; rw [decide_eq_true h0]; rfl)
                          go_wp2_with fail
                          go_meet
                          case rel => exact ⟨by rw [HQ.out], by first | rfl | trivial⟩
                        · have HQ : Hid ((Pf ks run cl sp nm ff tt) 4 e = false) := hid (by show (decide (ff ≤ e.at_) && decide (e.at_ ≤ tt)) = _; rw [decide_eq_false h0]; rfl)
                          go_wp2_with fail
                          go_meet
                          case rel => exact ⟨by rw [HQ.out], by first | rfl | trivial⟩
                      case rest =>
                        obtain ⟨rfl, hwc⟩ := hcut
                        rw [hwc]
                        clear hwc HNm d0 d1 d2 d3 d4 d5 d6 d7 d8 d9 d10 d11 d12 hd k0' k1' k2' k3' k4' k5' k6'
                        obtain ⟨p, hp⟩ : ∃ p, (Pf ks run cl sp nm ff tt) 4 e = p := ⟨_, rfl⟩
                        have Hp : Hid ((Pf ks run cl sp nm ff tt) 4 e = p) := hp
                        rw [hp]
                        clear hp
                        go_upto_if 125 with fail
                        go_cut [12] from 49 to 144 (fun t wx => Hid (Fx w2 (sel5 u8 u9 u10 u11 t) mb u14 (XX (Pf ks run cl sp nm ff tt) L j 5) (ruL (L.take j)) (keL (L.take j)) wx ∧ wx.heap[k0]? = some (.cells #[.int .i64 e.at_, .int .i64 e.kd, .int .i64 e.cl, .int .i64 e.ca, .int .i64 e.ru, .int .i64 e.ge, .int .i64 e.ho, .int .u16 e.sp, .string e.nm, .int .i64 e.va, .int .i64 e.fk, .int .i64 e.fc, .int .i64 e.fr] 40 (0, 0))))
                        case first =>
                          cases p with
                          | false =>
                            go_wp2_with fail
                            go_meet
                            case rel => exact hid ⟨H.out.1.congr (fun _ _ => rfl) (xx_no He.out Hp.out), H.out.2⟩
                          | true =>
                            have ho := H.out.1.own 4 (by decide)
                            have ho2 : WD4.ownsRow w2.heap.size 3 1 u12 (XX (Pf ks run cl sp nm ff tt) L j 4 4).length (ints (XX (Pf ks run cl sp nm ff tt) L j 4 4)) := ho
                            obtain ⟨sa, sc, eu⟩ := own_form ho2
                            have hln := Nat.le_trans (xx_len (Pf ks run cl sp nm ff tt) L j 4 4) HLn.out
                            obtain ⟨ns, hns⟩ : ∃ ns, (XX (Pf ks run cl sp nm ff tt) L j 4 4).length = ns := ⟨_, rfl⟩
                            rw [hns] at ho2 eu hln
                            subst eu
                            have HO := hid ho2
                            have HNs := hid hns
                            have HLs := hid hln
                            have TN : Hid (Touch [] WD4 (WD4.alloc (.cells #[.int .i64 j] 3))) := (Touch.refl [] WD4).alloc _
                            have HBd := hid H.out.1.t.size
                            clear ho ho2 hns hln
                            go_wp2_with (at_builtin; refine wpList_append_rs rfl _ _ 23 3 rfl _ 1 8 info3 Tryz.underlying23 rfl (by decide) w2.heap.size (.slice sa ns sc) ns (ints (XX (Pf ks run cl sp nm ff tt) L j 4 4)) rfl (own_touch HO.out TN.out (by simp)) (.slice (some ⟨WD4.heap.size, 0, none⟩) 1 1) 1 [.int .i64 j] rfl (Rs.new WD4 #[.int .i64 j] 3 1 rfl) (by simp [Value.oneCell']) (by have := HLs.out; unfold maxLen; omega) (by have := HLs.out; omega) (by have := HBd.out; simp; omega) ?_; intro v6 w6 o6 g6 p6; have A6 := hid (H.out.1.app (i := 4) (x := (j : Int)) (by decide) TN.out (HNs.out.symm ▸ o6) g6 p6); have B6 : Hid (w6.heap[k0]? = some (.cells #[.int .i64 e.at_, .int .i64 e.kd, .int .i64 e.cl, .int .i64 e.ca, .int .i64 e.ru, .int .i64 e.ge, .int .i64 e.ho, .int .u16 e.sp, .string e.nm, .int .i64 e.va, .int .i64 e.fk, .int .i64 e.fc, .int .i64 e.fr] 40 (0, 0))) := hid (((Touch.refl _ _).grown g6 (fun q hq => Or.inl (by simp [hq]))).keep (F := (Value.slice sa ns sc).ownBlock.toList) (TN.out.keep H.out.2 (by simp)) (fun hm => kind_ne HO.out H.out.2 (by decide) (Option.mem_toList.1 hm))); clear o6 g6 p6)
                            go_meet
                            case rel => exact hid ⟨A6.out.congr (fun k hk => by rcases (by omega : k = 0 ∨ k = 1 ∨ k = 2 ∨ k = 3 ∨ k = 4) with rfl | rfl | rfl | rfl | rfl <;> rfl) (xx_yes He.out Hp.out), B6.out⟩
                        case rest =>
                          rename World => WD5
                          clear H Hp
                          have H := hcut
                          clear hcut
                          have EBc := H.out.2
                          have d0 := cell_at (j := 0) EBc rfl
                          have d1 := cell_at (j := 1) EBc rfl
                          have d2 := cell_at (j := 2) EBc rfl
                          have d3 := cell_at (j := 3) EBc rfl
                          have d4 := cell_at (j := 4) EBc rfl
                          have d5 := cell_at (j := 5) EBc rfl
                          have d6 := cell_at (j := 6) EBc rfl
                          have d7 := cell_at (j := 7) EBc rfl
                          have d8 := cell_at (j := 8) EBc rfl
                          have d9 := cell_at (j := 9) EBc rfl
                          have d10 := cell_at (j := 10) EBc rfl
                          have d11 := cell_at (j := 11) EBc rfl
                          have d12 := cell_at (j := 12) EBc rfl
                          have hd := block_lt EBc
                          clear EBc
                          go_upto_if 132 with fail
                          go_cut [] from 49 to 144 (fun wx => Hid (Fx w2 (sel5 u8 u9 u10 u11 u12) mb u14 (XX (Pf ks run cl sp nm ff tt) L j 5) (ruL (L.take (j + 1))) (keL (L.take j)) wx ∧ wx.heap[k0]? = some (.cells #[.int .i64 e.at_, .int .i64 e.kd, .int .i64 e.cl, .int .i64 e.ca, .int .i64 e.ru, .int .i64 e.ge, .int .i64 e.ho, .int .u16 e.sp, .string e.nm, .int .i64 e.va, .int .i64 e.fk, .int .i64 e.fc, .int .i64 e.fr] 40 (0, 0))))
                          case first =>
                            by_cases h0 : e.ru = 0
                            · have h1 : (e.ru != 0) = false := by simp [h0]
                              have H0 := hid h0
                              clear h0
                              go_wp2_with fail
                              go_meet
                              case rel => exact hid ⟨by rw [ruL_take L j e He.out, if_pos H0.out, List.append_nil]; exact H.out.1, H.out.2⟩
                            · have h1 : (e.ru != 0) = true := by simp [h0]
                              have H0 := hid h0
                              clear h0
                              obtain ⟨U, ⟨hm, hU⟩, hs⟩ := H.out.1.run (x := e.ru) (HOK.out e (List.mem_of_getElem? He.out)).1.ru (by have h1 := ruL_len (L.take j); have h2 := HLn.out; rw [List.length_take] at h1; omega)
                              obtain ⟨ob, hrun, hob⟩ := hm.set Tryz.underlying33 (by unfold maxLen; omega) (HOK.out e (List.mem_of_getElem? He.out)).1.ru (.bool true)
                              have A6 := hid (hs ob hob)
                              have B6 := hid ((setBlock_other WD5 mb ob (fun e1 => cell_of_map hm (e1 ▸ H.out.2))).trans H.out.2)
                              clear hm hU hs hob
                              go_wp2_with fail
                              go_meet
                              case rel => exact hid ⟨by rw [ruL_take L j e He.out, if_neg H0.out]; exact A6.out, B6.out⟩
                          case rest =>
                            rename World => WD6
                            clear H
                            have H := hcut
                            clear hcut
                            clear d0 d1 d2 d3 d4 d5 d6 d7 d8 d9 d10 d11 d12 hd
                            have EBc := H.out.2
                            have d0 := cell_at (j := 0) EBc rfl
                            have d1 := cell_at (j := 1) EBc rfl
                            have d2 := cell_at (j := 2) EBc rfl
                            have d3 := cell_at (j := 3) EBc rfl
                            have d4 := cell_at (j := 4) EBc rfl
                            have d5 := cell_at (j := 5) EBc rfl
                            have d6 := cell_at (j := 6) EBc rfl
                            have d7 := cell_at (j := 7) EBc rfl
                            have d8 := cell_at (j := 8) EBc rfl
                            have d9 := cell_at (j := 9) EBc rfl
                            have d10 := cell_at (j := 10) EBc rfl
                            have d11 := cell_at (j := 11) EBc rfl
                            have d12 := cell_at (j := 12) EBc rfl
                            have hd := block_lt EBc
                            clear EBc
                            have HNm : Hid (∀ w', Calls Tryz.prog 6 #[.int .i64 e.kd, .int .u8 107] w' fun r w'' => r = .returned (.bool (nmB e.kd 107)) ∧ w'' = w') := hid (fun w' => by have h5 := rnamed_ e.kd 107 w'; rw [has_nm e.kd 107 (by omega)] at h5; exact h5)
                            obtain ⟨p, hp⟩ : ∃ p, nmB e.kd 107 = p := ⟨_, rfl⟩
                            have Hp := hid hp
                            rw [hp] at HNm
                            clear hp
                            go_upto_if 138 with (go_at_call 6; refine (HNm.out _).mono ?_; rintro r wq ⟨rfl, e1⟩; rw [e1]; clear e1 wq)
                            clear HNm
                            cases p with
                            | false =>
                                have H7 : Hid (Fx w2 (sel5 u8 u9 u10 u11 u12) mb u14 (XX (Pf ks run cl sp nm ff tt) L j 5) (ruL (L.take (j + 1))) (keL (L.take (j + 1))) WD6) := hid (by rw [keL_take L j e He.out, Hp.out, if_neg (by simp), List.append_nil]; exact H.out.1)
                                clear H Hp
                                go_wp2_with fail
                                go_roundw
                                case rel => exact ⟨j + 1, by go_num, by omega, hid (H7.out.congr (fun _ _ => rfl) (xx_next (Pf ks run cl sp nm ff tt) L j))⟩
                                case measure => simp [intOf]; omega
                            | true =>
                                have ho := H.out.1.ks
                                obtain ⟨sa, sc, eu⟩ := own_form ho
                                have hln := Nat.le_trans (keL_len (L.take j)) (Nat.le_trans (by rw [List.length_take]; omega : (L.take j).length ≤ L.length) HLn.out)
                                obtain ⟨ns, hns⟩ : ∃ ns, (keL (L.take j)).length = ns := ⟨_, rfl⟩
                                rw [hns] at ho eu hln
                                subst eu
                                have HO := hid ho
                                have HNs := hid hns
                                have HLs := hid hln
                                have HBd := hid H.out.1.t.size
                                have HGv := hid (fun w' => given_ e w')
                                have hfl := fun w' => fldK w' e
                                clear ho hns hln
                                unfold Ez.val at HGv hfl
                                go_wp2_with fail
                                refine (HGv.out _).mono ?_
                                rintro r w5 ⟨rfl, t5⟩
                                have T5 := hid t5
                                clear t5 d0 d1 d2 d3 d4 d5 d6 d7 d8 d9 d10 d11 d12 hd
                                have TN : Hid (Touch [] w5 (w5.alloc (.cells #[.int .u16 e.sp, .string e.nm] 42))) := (Touch.refl [] w5).alloc _
                                go_wp2_with (at_builtin; refine wpList_append_rs rfl _ _ 34 42 rfl _ 2 24 Un.info31 Tryz.underlying34 rfl (by decide) w2.heap.size (.slice sa ns sc) ns (Me.cellsK (keL (L.take j))) rfl (own_touch HO.out (T5.out.trans' TN.out) (by simp)) (.slice (some ⟨w5.heap.size, 0, none⟩) 1 1) 1 [.int .u16 e.sp, .string e.nm] rfl (Rs.new w5 #[.int .u16 e.sp, .string e.nm] 42 2 rfl) (by simp [Value.oneCell']) (by have := HLs.out; unfold maxLen; omega) (by have := HLs.out; omega) (by have := HBd.out; have := T5.out.size; simp; omega) ?_; intro v6 w6 o6 g6 p6; have A6 := hid (H.out.1.keys (k := (e.sp, e.nm)) (T5.out.trans' TN.out) (HNs.out.symm ▸ o6) g6); clear o6 g6 p6)
                                have H7 : Hid (Fx w2 (sel5 u8 u9 u10 u11 u12) mb v6 (XX (Pf ks run cl sp nm ff tt) L j 5) (ruL (L.take (j + 1))) (keL (L.take (j + 1))) w6) := hid (by rw [keL_take L j e He.out, Hp.out, if_pos rfl]; exact A6.out)
                                clear A6 H Hp
                                go_roundw
                                case rel => exact ⟨j + 1, by go_num, by omega, hid (H7.out.congr (fun _ _ => rfl) (xx_next (Pf ks run cl sp nm ff tt) L j))⟩
                                case measure => simp [intOf]; omega
    · have hz : ¬ (j : Int) < NL := by omega
      have e1 : j = L.length := by rw [HnL.out]; omega
      have HF2 : Hid (Fx w2 (sel5 u8 u9 u10 u11 u12) mb u14 (fun k => plc ((Pf ks run cl sp nm ff tt) k) L) (ruL L) (keL L) wo) := by
        have h1 := HF.out
        rw [e1, List.take_length] at h1
        exact h1.congr (fun _ _ => rfl) (fun k hk => by unfold XX; rw [if_neg (by omega), List.take_length])
      have HQt : Hid (∀ w', Touch [] w2 w' → Tq w' W0.heap.size b v L) := hid (fun w' t => HB2.out.q.touch0 t)
      have HR5 : Hid (∀ w' i, i < 5 → Fx w2 (sel5 u8 u9 u10 u11 u12) mb u14 (fun k => plc ((Pf ks run cl sp nm ff tt) k) L) (ruL L) (keL L) w' → Rd w' (sel5 u8 u9 u10 u11 u12 i) (plc ((Pf ks run cl sp nm ff tt) i) L)) := hid (fun w' i hi h => Rd.of_own (h.own i hi))
      have HPl : Hid (∀ P, (plc P L).length ≤ 1048576) := hid (fun P => Nat.le_trans (plc_len P L) HLn.out)
      clear e1 HF hlt hj
      have C0 := hid (fun w' (t : Touch [] w2 w') => ofKindT_ (HQt.out w' t) (fun e he => (HOK.out e he).2) ks a c (HK2.out w' t) (by have := HKl.out; omega))
      have C1 := hid (fun w' (t : Touch [] w2 w') => ofRun_ (HQt.out w' t) run)
      have C2 := hid (fun w' (t : Touch [] w2 w') => ofKey_ (HQt.out w' t) (HTk2.out w' t) sp nm)
      have C3 := hid (fun w' (t : Touch [] w2 w') => ofCl_ (HQt.out w' t) cl)
      have C4 := hid (fun w' (t : Touch [] w2 w') => betw_ (HQt.out w' t) ff tt)
      have C5 := hid (fun w' (t : Touch [] w2 w') => runs_ (HQt.out w' t))
      have C6 := hid (fun w' (t : Touch [] w2 w') => keys_ (HQt.out w' t) (HTk2.out w' t) (fun e he => ⟨(HOK.out e he).1.sp, (HOK.out e he).1.nm⟩))
      unfold PT at *
      obtain ⟨k0', k1', k2', k3', k4', k5', k6'⟩ := HKA.out _ HF2.out.t
      go_wp2_with fail
      refine (C0.out _ HF2.out.t).mono ?_
      rintro r wa0 ⟨va0, rfl, oa0, ta0⟩
      have Fa0 := hid (HF2.out.touch ta0)
      have Ra0 := hid (Rd.of_own oa0)
      clear oa0 ta0 k0' k1' k2' k3' k4' k5' k6'
      go_wp2_with fail
      refine (same_ Ra0.out (HR5.out _ 0 (by decide) Fa0.out) (HPl.out _)).mono ?_
      rintro r wb0 ⟨rfl, tb0⟩
      have Fb0 := hid (Fa0.out.touch tb0)
      clear tb0 Fa0 Ra0
      obtain ⟨k0', k1', k2', k3', k4', k5', k6'⟩ := HKA.out _ Fb0.out.t
      go_wp2_with fail
      refine (C1.out _ Fb0.out.t).mono ?_
      rintro r wa1 ⟨va1, rfl, oa1, ta1⟩
      have Fa1 := hid (Fb0.out.touch ta1)
      have Ra1 := hid (Rd.of_own oa1)
      clear oa1 ta1 k0' k1' k2' k3' k4' k5' k6'
      go_wp2_with fail
      refine (same_ Ra1.out (HR5.out _ 1 (by decide) Fa1.out) (HPl.out _)).mono ?_
      rintro r wb1 ⟨rfl, tb1⟩
      have Fb1 := hid (Fa1.out.touch tb1)
      clear tb1 Fa1 Ra1 Fb0
      obtain ⟨k0', k1', k2', k3', k4', k5', k6'⟩ := HKA.out _ Fb1.out.t
      go_wp2_with fail
      refine (C2.out _ Fb1.out.t).mono ?_
      rintro r wa2 ⟨va2, rfl, oa2, ta2⟩
      have Fa2 := hid (Fb1.out.touch ta2)
      have Ra2 := hid (Rd.of_own oa2)
      clear oa2 ta2 k0' k1' k2' k3' k4' k5' k6'
      go_wp2_with fail
      refine (same_ Ra2.out (HR5.out _ 2 (by decide) Fa2.out) (HPl.out _)).mono ?_
      rintro r wb2 ⟨rfl, tb2⟩
      have Fb2 := hid (Fa2.out.touch tb2)
      clear tb2 Fa2 Ra2 Fb1
      obtain ⟨k0', k1', k2', k3', k4', k5', k6'⟩ := HKA.out _ Fb2.out.t
      go_wp2_with fail
      refine (C3.out _ Fb2.out.t).mono ?_
      rintro r wa3 ⟨va3, rfl, oa3, ta3⟩
      have Fa3 := hid (Fb2.out.touch ta3)
      have Ra3 := hid (Rd.of_own oa3)
      clear oa3 ta3 k0' k1' k2' k3' k4' k5' k6'
      go_wp2_with fail
      refine (same_ Ra3.out (HR5.out _ 3 (by decide) Fa3.out) (HPl.out _)).mono ?_
      rintro r wb3 ⟨rfl, tb3⟩
      have Fb3 := hid (Fa3.out.touch tb3)
      clear tb3 Fa3 Ra3 Fb2
      obtain ⟨k0', k1', k2', k3', k4', k5', k6'⟩ := HKA.out _ Fb3.out.t
      go_wp2_with fail
      refine (C4.out _ Fb3.out.t).mono ?_
      rintro r wa4 ⟨va4, rfl, oa4, ta4⟩
      have Fa4 := hid (Fb3.out.touch ta4)
      have Ra4 := hid (Rd.of_own oa4)
      clear oa4 ta4 k0' k1' k2' k3' k4' k5' k6'
      go_wp2_with fail
      refine (same_ Ra4.out (HR5.out _ 4 (by decide) Fa4.out) (HPl.out _)).mono ?_
      rintro r wb4 ⟨rfl, tb4⟩
      have Fb4 := hid (Fa4.out.touch tb4)
      clear tb4 Fa4 Ra4 Fb3
      obtain ⟨k0', k1', k2', k3', k4', k5', k6'⟩ := HKA.out _ Fb4.out.t
      clear k0' k1' k2' k3' k4' k5' k6' HR5 HPl C0 C1 C2 C3 C4
      go_wp2_with fail
      refine (C5.out _ Fb4.out.t).mono ?_
      rintro r wz ⟨zA, zc, Z, rfl, hcell, hpw, hmem, hzl, tz⟩
      have FZ := hid (Fb4.out.touch tz)
      have HZ : Hid ((∀ i (h : i < Z.length), ∃ b, zA = some ⟨b, 0, none⟩ ∧ wz.cell? ⟨b, i, none⟩ = some (.int .i64 Z[i])) ∧ Z.Pairwise (· < ·) ∧ (∀ x, x ∈ Z ↔ x ∈ ruL L)) := hid ⟨hcell, hpw, hmem⟩
      have hZl : Z.length ≤ 1048576 := by have := HLn.out; omega
      clear hcell hpw hmem hzl tz Fb4 C5
      obtain ⟨U, hU1, hU2, hU3⟩ := FZ.out.mp
      have HU := hid (And.intro hU1 (And.intro hU2 hU3))
      have HUL : Hid (U.length = Z.length) := hid (((List.perm_ext_iff_of_nodup hU1 (nodup_of_lt HZ.out.2.1)).2 (fun x => (hU2 x).trans (HZ.out.2.2 x).symm)).length_eq)
      have HLook : Hid (∀ x, x ∈ Z → (Instr.lookup 33 (.map (some mb)) (.int .i64 x) false).run Tryz.prog wz = .ok (.bool true) wz) := hid (fun x hx => by
        have hr := (HZ.out.2.2 x).1 hx
        have hw : W64 x := by
          unfold ruL at hr
          obtain ⟨e, he, h2⟩ := List.mem_filterMap.1 hr
          split at h2
          · cases h2
          · cases h2; exact (HOK.out e he).1.ru
        have h3 := hU3.look Tryz.underlying33 (z := .bool false) (by kernel_rfl) hw
        rw [h3]
        unfold setF
        rw [if_pos ((hU2 x).2 hr)]
        rfl)
      obtain ⟨nz, hnz⟩ : ∃ nz, Z.length = nz := ⟨_, rfl⟩
      have HNz := hid hnz
      rw [hnz] at hZl ⊢
      clear hU1 hU2 hU3 hnz
      obtain ⟨ZL, hZL⟩ : ∃ ZL : Int, (nz : Int) = ZL := ⟨_, rfl⟩
      have HZL := hid hZL
      have hZb : ZL ≤ 1048576 := by omega
      clear hZl
      go_wp2_with fail
      go_loopw [195] (fun i wr => ∃ j : Nat, i = .int .i64 j ∧ j ≤ nz ∧ wr = wz) (fun i _ => nz - (intOf i).toNat)
      case atStart => exact ⟨0, rfl, Nat.zero_le _, rfl⟩
      case round =>
      obtain ⟨j2, rfl, hj2, hwr⟩ := hrel
      rw [hwr]
      clear hwr
      by_cases hl2 : j2 < nz
      · have hy : (j2 : Int) < ZL := by omega
        have hjz : j2 < Z.length := by rw [HNz.out]; exact hl2
        obtain ⟨bz, hb1, cz⟩ := HZ.out.1 j2 hjz
        subst hb1
        have hlk := HLook.out Z[j2] (List.getElem_mem hjz)
        have hprev : Hid (∀ (h : 0 < j2), wz.cell? ⟨bz, j2 - 1, none⟩ = some (.int .i64 (Z[j2 - 1]'(by omega))) ∧ Z[j2 - 1]'(by omega) < Z[j2]) := hid (fun h => by
          obtain ⟨b', e2, h3⟩ := HZ.out.1 (j2 - 1) (by omega)
          cases e2
          exact ⟨h3, (List.pairwise_iff_getElem.1 HZ.out.2.1) (j2 - 1) j2 (by omega) hjz (by omega)⟩)
        rcases Nat.eq_zero_or_pos j2 with h0 | h0
        · subst h0
          obtain ⟨x, hx⟩ : ∃ x, Z[0] = x := ⟨_, rfl⟩
          rw [hx] at cz hlk
          clear hprev hjz hx
          go_wp2_with fail
          go_roundw
          case rel => exact ⟨1, by go_num, by omega, by first | rfl | trivial⟩
          case measure => simp [intOf]; omega
        · obtain ⟨cp, hlt2⟩ := hprev.out h0
          obtain ⟨x, hx⟩ : ∃ x, Z[j2] = x := ⟨_, rfl⟩
          obtain ⟨y, hyy⟩ : ∃ y, Z[j2 - 1]'(by omega) = y := ⟨_, rfl⟩
          rw [hx] at cz hlk hlt2
          rw [hyy] at cp hlt2
          obtain ⟨jp, hjp⟩ : ∃ jp, j2 - 1 = jp := ⟨_, rfl⟩
          rw [hjp] at cp
          have hjp2 : (j2 : Int) - 1 = (jp : Int) := by omega
          have hjp3 : (0 : Int) < (j2 : Int) := by omega
          have hjp4 : (jp : Int) < ZL := by omega
          have hjp5 : (0 : Int) ≤ (jp : Int) := by omega
          have hle : ¬ x ≤ y := by omega
          clear hprev hjz hx hyy hjp hlt2
          go_wp2_with fail
          go_roundw
          case rel => exact ⟨j2 + 1, by go_num, by omega, by first | rfl | trivial⟩
          case measure => simp [intOf]; omega
      · have hy : ¬ (j2 : Int) < ZL := by omega
        clear HLook hl2 hj2
        have hkl2 := keL_len L
        have hll := HLn.out
        have HUn := hid (Un.ref28 (keL L) u14 wz (by omega) (sl_ownR FZ.out.ks rfl))
        have HKok := hid (keL_ok (L := L) (fun e he => ⟨(HOK.out e he).1.sp, (HOK.out e he).1.nm⟩))
        have HKl2 := hid hkl2
        clear hkl2 hll
        go_wp2_with fail
        refine Calls.mono HUn.out ?_
        rintro r wu ⟨vu, rfl, su, bu⟩
        have Tu := hid (Touch.of_below bu)
        have HSo := hid (Ds.dsort_ (Un.unl [] (keL L)) vu wu (by have h1 := Un.unl_len [] (keL L); have h2 := HKl2.out; have h3 := HLn.out; simp only [List.length_nil, Nat.zero_add] at h1; omega) (fun x hx => by
          rcases (Un.unl_mem [] (keL L) x).1 hx with h | h
          · cases h
          · exact (HKok.out x h).2) (sl_ds su))
        clear su bu HUn
        go_wp2_with fail
        refine Calls.mono HSo.out ?_
        rintro r wd ⟨vd, ys, rfl, sd, pd, qd, bd⟩
        have Td := hid (Tu.out.trans' (Touch.of_below bd))
        have HSd := hid sd
        have HPd := hid (And.intro pd qd)
        clear HSo sd pd qd bd Tu
        go_wp2_with fail
        refine (C6.out _ (FZ.out.t.trans' Td.out)).mono ?_
        rintro r wk ⟨vk, ys2, rfl, pk, qk, okk, tk⟩
        have hye : ys2 = ys := So.sorted_unique _ _ (pk.trans HPd.out.1.symm) qk HPd.out.2
        rw [hye] at okk
        have hyl : ys.length ≤ 1048576 := by
          have h1 := Un.unl_len [] (keL L)
          have h2 := HKl2.out
          have h3 := HLn.out
          have h4 := HPd.out.1.length_eq
          simp only [List.length_nil, Nat.zero_add] at h1
          omega
        clear hye pk qk C6 HPd
        have Tk := hid (Td.out.trans' tk)
        obtain ⟨ad, cd, e2, hcd⟩ := sl_read HSd.out
        subst e2
        obtain ⟨ak, ck, e3⟩ := own_form okk
        subst e3
        have HCd : Hid (∀ w', Touch [] wk w' → ∀ i (h : i < ys.length), ∃ g off, ad = some ⟨g, off, none⟩ ∧ w'.cell? ⟨g, off + i * 2, none⟩ = some (.int .u16 ys[i].1) ∧ w'.cell? ⟨g, off + i * 2 + 1, none⟩ = some (.string ys[i].2)) := hid (fun w' t i h => by
          obtain ⟨g, off, e1, h1, h2⟩ := hcd i h
          exact ⟨g, off, e1, tcell (tk.trans' t) h1, tcell (tk.trans' t) h2⟩)
        have HCk : Hid (∀ w', Touch [] wk w' → ∀ i (h : i < ys.length), ∃ g, ak = some ⟨g, 0, none⟩ ∧ w'.cell? ⟨g, i * 2, none⟩ = some (.int .u16 ys[i].1) ∧ w'.cell? ⟨g, i * 2 + 1, none⟩ = some (.string ys[i].2)) := hid (fun w' t i h => by
          have o2 := own_touch okk t (by simp)
          obtain ⟨g, c2, e1, _, _⟩ := own_some o2 (by omega)
          simp only [Value.slice.injEq] at e1
          obtain ⟨rfl, -, rfl⟩ := e1
          exact ⟨g, rfl, own_cell o2 (Me.cellsK_at0 ys i h), own_cell o2 (Me.cellsK_at1 ys i h)⟩)
        have hml : ∀ ty, (Builtin.len_ #[33] ty #[.map (some mb)]).run Tryz.prog wk = .ok (.int .i64 ZL) wk := fun ty => by
          have h1 := (HU.out.2.2.kept (Tk.out.block _ HU.out.2.2.lt (by simp))).len Tryz.underlying33 ty
          rw [HUL.out, HNz.out, HZL.out] at h1
          exact h1
        have HTe := hid ((HT2.out.trans' FZ.out.t).trans' Tk.out)
        clear hcd okk tk Td HSd
        obtain ⟨ny, hny⟩ : ∃ ny, ys.length = ny := ⟨_, rfl⟩
        have HNy := hid hny
        rw [hny] at hyl ⊢
        clear hny
        obtain ⟨YL, hYL⟩ : ∃ YL : Int, (ny : Int) = YL := ⟨_, rfl⟩
        have hYb : YL ≤ 1048576 := by omega
        have hnq := neRK
        clear hyl
        go_wp2_with fail
        go_loopw [237] (fun i wr => ∃ j : Nat, i = .int .i64 j ∧ j ≤ ny ∧ Hid (Touch [] wk wr)) (fun i _ => ny - (intOf i).toNat)
        case atStart => exact ⟨0, rfl, Nat.zero_le _, Touch.refl [] wk⟩
        case round =>
        obtain ⟨j3, rfl, hj3, HT3⟩ := hrel
        clear hml
        by_cases hl3 : j3 < ny
        · have hx3 : (j3 : Int) < YL := by omega
          have hjy : j3 < ys.length := by rw [HNy.out]; exact hl3
          obtain ⟨gd, offd, e1, x0, x1⟩ := HCd.out _ HT3.out j3 hjy
          subst e1
          obtain ⟨gk, e1, y0, y1⟩ := HCk.out _ HT3.out j3 hjy
          subst e1
          obtain ⟨x, hx⟩ : ∃ x, ys[j3] = x := ⟨_, rfl⟩
          rw [hx] at x0 x1 y0 y1
          have hnq2 := fun w' => hnq w' x.1 x.2
          have h0 : (0 : Int) ≤ (j3 : Int) := by omega
          clear hjy hx hnq
          go_upto_region 46 with fail
          go_region
          go_wp2_with fail
          go_roundw
          case rel => exact ⟨j3 + 1, by go_num, by omega, HT3.out.drew⟩
          case measure => simp [intOf]; omega
        · have hx3 : ¬ (j3 : Int) < YL := by omega
          go_wp2_with fail
          go_ret
          exact ⟨rfl, HTe.out.trans' HT3.out⟩
end Go.Proofs.YtcdikdiopklcgaaGreatDoor.Tr
