/- Keys that are gone over can be left early: the walk of the law, as far as its loop over names. The names are what they are, their bytes within the form's reach. -/
import Derived.Test.YtjcdloijodfpgaaSay
import Derived.Test.YtjcdloijodfpgaaRtc
import Derived.Test.YtjcdloijodfpgaaRof
import Derived.Deep.CutRange
import Derived.Deep.CutBlock
namespace Go.Proofs.Ytjcdloijodfpgaa
open Go.RowKit Go.Sort Go.Maps Go.ChangeMaps Go.WideMaps Go.Shelf
set_option linter.unusedVariables false
set_option linter.unusedSimpArgs false
attribute [local go_sem] Oper.semAt_some
/-- A slice that came in tells texts. -/
def Sn (w : World) (v : Value) (ns : List ByteArray) : Prop := ∃ a c, v = .slice a ns.length c ∧ ∀ k (hk : k < ns.length), ∃ b off, a = some ⟨b, off, none⟩ ∧ b < w.heap.size ∧ w.cell? ⟨b, off + k, none⟩ = some (.string ns[k])
def nx (xs : List K) (s : ByteArray) : List K := if s.size ≤ 64 then useL 100 xs (0, s) else xs
theorem useL_len {most : Int} {xs : List K} {k : K} (h0 : 0 ≤ most) (h : (xs.length : Int) ≤ most) : ((useL most xs k).length : Int) ≤ most := by
  have h1 : (useY xs k).length ≤ xs.length + 1 := by
    unfold useY
    have := dr_le xs k
    simp only [List.length_append, List.length_singleton]
    omega
  unfold useL
  by_cases hb : useB most xs k = true
  · rw [if_pos hb, List.length_tail]
    omega
  · rw [if_neg hb]
    unfold useB at hb
    simp only [decide_eq_true_eq] at hb
    omega
theorem nx_len {xs : List K} {s : ByteArray} (h : xs.length ≤ 100) : (nx xs s).length ≤ 100 := by
  unfold nx
  split
  · have := useL_len (most := 100) (xs := xs) (k := (0, s)) (by omega) (by omega)
    omega
  · exact h
/-- The order is xs, the document's in box b is ys. -/
structure LvS (w : World) (o b : Nat) (stop : Int) (xs ys : List K) (wr : World) : Prop where
  oq : ∃ F, Oq wr o F 100 xs ∧ ∀ k ∈ F, w.heap.size ≤ k
  rk : ∃ a n c, wr.heap[b]? = some (.cells #[.int .i64 100, .slice a n c] 31 (0, 0)) ∧ RK wr (.slice a n c) ys
  b0 : wr.heap[w.heap.size]? = some (.cells #[.int .i64 stop] 3 (0, 0))
  b1 : wr.heap[w.heap.size + 1]? = some (.cells #[.bool false] 4 (0, 0))
  t : Touch [] w wr
  hb : w.heap.size ≤ b
  lx : xs.length ≤ 100
  ly : ys.length ≤ 100
theorem LvS.keep {w wr wr' : World} {o b : Nat} {stop : Int} {xs ys : List K} (h : LvS w o b stop xs ys wr) (t : Touch [] wr wr') : LvS w o b stop xs ys wr' := by
  obtain ⟨⟨F, f1, f2⟩, ⟨a, n, c, r1, r2⟩, b0, b1, t0, hb, lx, ly⟩ := h
  exact ⟨⟨F, f1.keep0 t, f2⟩, ⟨a, n, c, t.keep r1 (by simp), r2.keep t⟩, t.keep b0 (by simp), t.keep b1 (by simp), t0.trans' t, hb, lx, ly⟩
theorem rk_order {w w' : World} {o : Nat} {F : List Nat} {most : Int} {xs : List K} (h : Oq w o F most xs) (t : Touch F w w') {v : Value} {ys : List K} (hr : RK w v ys) : RK w' v ys :=
  own_touch hr t (fun b hb => by
    obtain ⟨cs, hc⟩ := own_type hr hb
    exact h.away hc (by decide) (by decide))
theorem ok_name {s : ByteArray} (h : s.size ≤ maxLen) : Ok (0, s) := ⟨by show (Lit.int .u16 0).wf = true; decide, h⟩
theorem LvS.use {w wr : World} {o b : Nat} {stop : Int} {xs ys : List K} (h : LvS w o b stop xs ys wr) (s : ByteArray) (hs : s.size ≤ maxLen) :
    Calls Try.prog 11 #[PT o, kv (0, s)] wr fun e w' => (∃ v, e = .returned v) ∧ LvS w o b stop (nx xs s) ys w' := by
  obtain ⟨⟨F, f1, f2⟩, ⟨a, n, c, r1, r2⟩, b0, b1, t0, hb, lx, ly⟩ := h
  by_cases h64 : s.size ≤ 64
  · have e1 : nx xs s = useL 100 xs (0, s) := by unfold nx; rw [if_pos h64]
    refine (useO wr o F 100 xs (0, s) (ok_name hs) h64 (by omega) f1).mono ?_
    rintro e w' ⟨rfl, F', c1, c2, c3⟩
    refine ⟨⟨_, rfl⟩, ⟨F', by rw [e1]; exact c1, fun k hk => (c3 k hk).elim (f2 k) (fun e => Nat.le_trans t0.size e)⟩, ⟨a, n, c, c2.keep r1 (f1.away r1 (by decide) (by decide)), rk_order f1 c2 r2⟩, c2.keep b0 (f1.away b0 (by decide) (by decide)), c2.keep b1 (f1.away b1 (by decide) (by decide)), t0.trans c2 (fun i hi => Or.inr (f2 i hi)), hb, nx_len lx, ly⟩
  · have e1 : nx xs s = xs := by unfold nx; rw [if_neg h64]
    refine (useO_long wr o (0, s) (by show 64 < s.size; omega)).mono ?_
    rintro e w' ⟨rfl, t⟩
    rw [e1]
    exact ⟨⟨_, rfl⟩, LvS.keep ⟨⟨F, f1, f2⟩, ⟨a, n, c, r1, r2⟩, b0, b1, t0, hb, lx, ly⟩ t⟩
def RuQ (w : World) (o b : Nat) (stop : Int) (xs ys : List K) (e : Ending) (w' : World) : Prop :=
  ∃ a n c g f z, e = .returned (.tuple #[.agg #[.int .i64 100, .slice a n c], g, .bool f, .int .i64 z]) ∧ w'.heap[b]? = w'.heap[b]? ∧ (∃ a0 n0 c0, w'.heap[b]? = some (.cells #[.int .i64 100, .slice a0 n0 c0] 31 (0, 0))) ∧ LvS w o b stop xs ys ((w'.setCell ⟨b, 0, none⟩ (.int .i64 100)).setCell ⟨b, 1, none⟩ (.slice a n c))
theorem LvS.ruse {w wr : World} {o b : Nat} {stop : Int} {xs ys : List K} (h : LvS w o b stop xs ys wr) (s : ByteArray) {a : Option Addr} {n c : Nat} (hc : wr.heap[b]? = some (.cells #[.int .i64 100, .slice a n c] 31 (0, 0))) :
    Calls Try.prog 12 #[rv 100 (.slice a n c), kv (0, s)] wr fun e w' => RuQ w o b stop xs (nx ys s) e w' := by
  obtain ⟨⟨F, f1, f2⟩, ⟨a', n', c', r1, r2⟩, b0, b1, t0, hb, lx, ly⟩ := h
  have e0 : Value.slice a n c = Value.slice a' n' c' := by
    rw [r1] at hc
    simp at hc
    rw [hc.1, hc.2.1, hc.2.2]
  rw [e0]
  have hset : ∀ w' v2, Touch [] wr w' → RK w' v2 (nx ys s) → (∃ a2 n2 c2, v2 = .slice a2 n2 c2) → LvS w o b stop xs (nx ys s) ((w'.setCell ⟨b, 0, none⟩ (.int .i64 100)).setCell ⟨b, 1, none⟩ v2) := fun w' v2 t hr hv => by
    obtain ⟨a2, n2, c2, rfl⟩ := hv
    have rb := t.keep r1 (by simp)
    have tb : Touch [b] w' ((w'.setCell ⟨b, 0, none⟩ (.int .i64 100)).setCell ⟨b, 1, none⟩ (.slice a2 n2 c2)) := ((Touch.refl _ _).setCell (by simp) _).setCell (by simp) _
    have f1' := f1.keep0 t
    have hbF : ¬ b ∈ F := f1'.away rb (by decide) (by decide)
    refine ⟨⟨F, f1'.keep tb (fun k hk hh => by simp only [List.mem_singleton] at hh; exact hbF (hh ▸ hk)), f2⟩, ⟨a2, n2, c2, bset (bset rb _) _, own_touch hr tb (fun g hg hh => ?_)⟩, tb.keep (t.keep b0 (by simp)) (fun hh => ?_), tb.keep (t.keep b1 (by simp)) (fun hh => ?_), (t0.trans' t).trans tb (fun i hi => by simp only [List.mem_singleton] at hi; subst hi; exact Or.inr hb), hb, lx, nx_len ly⟩
    · obtain ⟨cs, hcs⟩ := own_type hr hg
      simp only [List.mem_singleton] at hh
      rw [hh, rb] at hcs
      simp at hcs
    · simp only [List.mem_singleton] at hh
      rw [hh, r1] at b0
      simp at b0
    · simp only [List.mem_singleton] at hh
      rw [hh, r1] at b1
      simp at b1
  by_cases h64 : s.size ≤ 64
  · have e1 : nx ys s = useL 100 ys (0, s) := by unfold nx; rw [if_pos h64]
    refine (ruseO wr 100 (.slice a' n' c') ys (0, s) h64 (by omega) r2).mono ?_
    rintro e w' ⟨v2, rfl, hr, t⟩
    obtain ⟨a2, c2, rfl⟩ := own_form hr
    exact ⟨_, _, _, _, _, _, rfl, rfl, ⟨_, _, _, t.keep r1 (by simp)⟩, hset w' _ t (by rw [e1]; exact hr) ⟨_, _, _, rfl⟩⟩
  · have e1 : nx ys s = ys := by unfold nx; rw [if_neg h64]
    refine (ruse_long wr 100 (.slice a' n' c') ys (0, s) (by show 64 < s.size; omega) r2).mono ?_
    rintro e w' ⟨rfl, hr, t⟩
    exact ⟨_, _, _, _, _, _, rfl, rfl, ⟨_, _, _, t.keep r1 (by simp)⟩, hset w' _ t (by rw [e1]; exact hr) ⟨_, _, _, rfl⟩⟩
/-- What the law's count is while All is gone over. -/
def LvI (B : World) (b : Nat) (X : List Nat) (pre : List K) (W : World) : Prop :=
  W.heap[b]? = some (.cells #[.int .i64 (pre.length : Int)] 3 (0, 0)) ∧ ¬ b ∈ X ∧ B.heap.size ≤ b ∧ (∀ k ∈ X, B.heap.size ≤ k) ∧ Touch [] B W
theorem LvI.step {B : World} {b : Nat} {X : List Nat} {pre : List K} {W W' : World} (h : LvI B b X pre W) (t : Touch X W W') : LvI B b X pre W' :=
  ⟨t.keep h.1 h.2.1, h.2.1, h.2.2.1, h.2.2.2.1, h.2.2.2.2.trans t (fun i hi => Or.inr (h.2.2.2.1 i hi))⟩
def LvX (w : World) (r : Nat) (X : List Nat) (W : World) : Prop :=
  W.heap[r]? = some (.cells #[.bool true] 4 (0, 0)) ∧ ¬ r ∈ X ∧ (∀ k ∈ X, w.heap.size ≤ k) ∧ Touch [] w W
theorem LvX.step {w : World} {r : Nat} {X : List Nat} {W W' : World} (h : LvX w r X W) (t : Touch X W W') : LvX w r X W' :=
  ⟨t.keep h.1 h.2.1, h.2.1, h.2.2.1, h.2.2.2.trans t (fun i hi => Or.inr (h.2.2.1 i hi))⟩
theorem ref14x (w : World) (k : K) : Calls Try.prog 14 #[kv k] w fun e w' => e = .returned (kv k) ∧ w' = (w.alloc (.cells #[.int .u16 k.1, .string k.2] 36)).alloc (.cells #[.int .u16 k.1, .string k.2] 44) := by
  unfold kv
  go_enter Try.func14, Try.ntmps14
  go_wp2
  exact bodyPost_ret (v := .agg #[.int .u16 k.1, .string k.2]) (by simp [results, Try.results14, go_sem]) rfl ⟨rfl, rfl⟩
set_option maxRecDepth 100000 in
set_option maxHeartbeats 4000000 in
theorem law4 (w : World) (ns : List ByteArray) (v : Value) (stop : Int) (hsn : Sn w v ns) (hws : W64 stop) (hsz : ∀ s ∈ ns, s.size ≤ maxLen) :
    Calls Try.prog 4 #[v, .int .i64 stop] w fun e w' => e = .returned (.bool true) ∧ Touch [] w w' := by
  refine (callsIn_wide (n := 0)).1 ?_
  obtain ⟨a0, c0, rfl, hns⟩ := hsn
  have HNs := hid hns
  clear hns
  refine callsIn_of_wp_marks Try.func4 rfl trivial (wpIn_wide.2 ?_) rfl
  simp only [Try.ntmps4, List.size_toArray, List.length_cons, List.length_nil, Nat.reduceAdd, Nat.reduceSub, Array.replicate_succ, Array.replicate_zero, List.push_toArray, List.append_toArray, List.nil_append, List.cons_append]
  have HN := hid (fun w => new6_ok w 100 (by omega) (by omega))
  unfold PT at HN
  go_upto_block 0 with (first
    | (go_at_call 6; refine (HN.out _).mono ?_; rintro e w1 ⟨rfl, h1, t1⟩; have H1 := hid h1; have T1 := hid t1; clear h1 t1)
    | (go_at_call 7; refine (awake7 _).mono ?_; rintro e w2 ⟨rfl, t2⟩; have T2 := hid t2; clear t2))
  obtain ⟨o, ho⟩ : ∃ o, o = w.heap.size + 1 + 1 := ⟨_, rfl⟩
  obtain ⟨V, hV⟩ : ∃ V, V = w2.alloc (.cells #[.int .i64 100, .slice none 0 0] 31) := ⟨_, rfl⟩
  have HI : Hid (∃ xs, LvS w o w2.heap.size stop xs xs V) := by
    have h1 : Od w1 o none 100 [] := by rw [ho]; simpa using H1.out
    have t12 : Touch [] ((w.alloc (.cells #[.int .i64 stop] 3)).alloc (.cells #[.bool false] 4)) V := by
      rw [hV]
      exact (T1.out.trans' T2.out).alloc _
    have h2 : Od V o none 100 [] := by
      rw [hV]
      exact h1.keep0 (T2.out.alloc _)
    have hz := t12.size
    have hz2 := (T1.out.trans' T2.out).size
    simp only [World.size_alloc] at hz hz2
    refine ⟨[], ⟨[o], ⟨none, [], rfl, rfl, h2⟩, fun k hk => ?_⟩, ⟨none, 0, 0, ?_, RK.nil _⟩, t12.keep ((Below.heap_alloc _ _ _ (by simp)).trans (heap_alloc_new w _)) (by simp), t12.keep ?_ (by simp), (((Touch.refl _ _).alloc _).alloc _).trans' t12, by omega, by simp, by simp⟩
    · simp only [List.mem_singleton] at hk
      omega
    · rw [hV]
      exact heap_alloc_new w2 _
    · have := heap_alloc_new (w.alloc (.cells #[.int .i64 stop] 3)) (.cells #[.bool false] 4)
      rwa [World.size_alloc] at this
  rw [← ho, ← hV]
  have HO := hid ho
  clear hV H1 T1 T2 HN ho
  generalize w2.heap.size = b7 at *
  go_cut [8] from 23 to 51 (fun s8 wx => Hid (∃ xs, LvS w o b7 stop xs xs wx))
  case first =>
    go_wp2_with fail
    go_loopw [8] (fun i wr => ∃ (k : Nat), k ≤ ns.length ∧ k ≤ 200 ∧ i = .int .i64 k ∧ Hid (∃ xs, LvS w o b7 stop xs xs wr)) (fun i _ => 200 - (intOf i).toNat)
    case atStart => exact ⟨0, Nat.zero_le _, by omega, rfl, HI⟩
    case round =>
      clear HI
      obtain ⟨k, hk, hk2, rfl, HR⟩ := hrel
      by_cases hlt : k < ns.length
      · have zk : (k : Int) < (ns.length : Int) := by omega
        by_cases h200 : k < 200
        · have z2 : (k : Int) < 200 := by omega
          obtain ⟨xs, hx⟩ := HR.out
          obtain ⟨bn, off, rfl, hbn, hcell⟩ := HNs.out k hlt
          have hsk := hsz _ (List.getElem_mem hlt)
          have HC := hid (fun w' (t : Touch [] w w') => (World.cell?_of_block (t.block bn hbn (by simp))).trans hcell)
          have n0 := HC.out wr hx.t
          have HU := hid (hx.use ns[k] hsk)
          have HW := hid (fun w' (x1 y1 : List K) (h : LvS w o b7 stop x1 y1 w') a n c (hc : w'.heap[b7]? = some (.cells #[.int .i64 100, .slice a n c] 31 (0, 0))) => h.ruse ns[k] hc)
          clear HR hx hcell
          generalize ns[k] = s at *
          unfold PT kv rv at *
          go_wp2_with (go_at_call 11; refine HU.out.mono ?_; rintro e w3 ⟨⟨v3, rfl⟩, h3⟩; have H3 := hid h3; clear h3; have n1 := HC.out w3 H3.out.t; obtain ⟨a3, n3, c3, r3, _⟩ := H3.out.rk; have p0 : w3.cell? ⟨b7, 0, none⟩ = some (.int .i64 100) := (by simp [World.cell?, r3]); have p1 : w3.cell? ⟨b7, 1, none⟩ = some (.slice a3 n3 c3) := (by simp [World.cell?, r3]); have HW3 := hid (fun w' (t : Touch [] w3 w') => HW.out w' _ _ (H3.out.keep t) a3 n3 c3 (t.keep r3 (by simp))); clear HW r3 n0)
          have t3 : Touch [] w3 w3.drew := (Touch.refl _ _).drew
          refine wp_region_noPanic ?_
          go_region_with (go_at_call 12; refine (HW3.out _ t3).mono ?_; rintro e w4 ⟨a4, n4, c4, g4, f4, z4, rfl, _, ⟨a5, n5, c5, r5⟩, h4⟩; have q0 : w4.cell? ⟨b7, 0, none⟩ = some (.int .i64 100) := (by simp [World.cell?, r5]); have q1 : w4.cell? ⟨b7, 1, none⟩ = some (.slice a5 n5 c5) := (by simp [World.cell?, r5]); have q2 : w4.frozen? ⟨b7, 0, none⟩ = false := (by simp [World.frozen?, r5]); have q3 : w4.frozen? ⟨b7, 1, none⟩ = false := (by simp [World.frozen?, r5]); have H4 := hid h4; clear h4 r5)
          all_goals
            refine NoPanic.normal ?_
            go_wp2_with fail
            go_roundw
            case rel => exact ⟨k + 1, by omega, by omega, by go_num, _, H4.out⟩
            case measure => simp [intOf]; omega
        · have z2 : (200 : Int) ≤ (k : Int) := by omega
          go_wp2_with fail
          go_meet
          case rel => exact HR
      · have zk : (ns.length : Int) ≤ (k : Int) := by omega
        go_wp2_with fail
        go_meet
        case rel => exact HR
  case rest =>
    clear HI
    have HR := hcut
    obtain ⟨xs, hx⟩ := HR.out
    have HX := hid hx
    clear HR hcut HNs hsz hws
    have HA := fun w => all13 w o
    unfold PT at HA
    have ef := fun w => eqf w wc.heap.size
    go_wp2_with (go_at_call 13; refine (HA _).mono ?_; rintro e w5 ⟨rfl, rfl⟩)
    clear HA ef
    obtain ⟨W0, hW0⟩ : ∃ W0, (wc.alloc (.cells #[.pointer (some ⟨o, 0, none⟩)] 23)).alloc (.cells #[.int .i64 0] 3) = W0 := ⟨_, rfl⟩
    rw [hW0]
    have T0 : Touch [] wc W0 := by rw [← hW0]; exact ((Touch.refl _ _).alloc _).alloc _
    have z0 : W0.heap.size = wc.heap.size + 2 := by rw [← hW0]; simp
    have k0 : W0.heap[wc.heap.size]? = some (.cells #[.pointer (some ⟨o, 0, none⟩)] 23 (0, 0)) := by rw [← hW0]; exact (Below.heap_alloc _ _ _ (by simp)).trans (heap_alloc_new _ _)
    have k1 : W0.heap[wc.heap.size + 1]? = some (.cells #[.int .i64 0] 3 (0, 0)) := by
      rw [← hW0]
      have := heap_alloc_new (wc.alloc (.cells #[.pointer (some ⟨o, 0, none⟩)] 23)) (.cells #[.int .i64 0] 3)
      rwa [World.size_alloc] at this
    obtain ⟨F, f1, f2⟩ := HX.out.oq
    have hl100 := HX.out.lx
    obtain ⟨a7, n7, c7, r7, rk7⟩ := HX.out.rk
    have hn1 : w.heap.size + 1 < wc.heap.size := block_lt HX.out.b1
    have ht := HX.out.t
    have HTW := hid ht
    have hzw := ht.size
    clear hW0
    refine (wpIn_wide (n := 0)).1 ?_
    refine range_at (s := 11) (p := 57) wc.heap.size o F 100 xs rfl rfl (by simp [World.cell?, k0, PT]) (block_lt k0) (f1.keep0 T0) (by omega) (LvI wc (wc.heap.size + 1)) (LvX w (w.heap.size + 1)) (fun X W t hX => ⟨t.keep k1 (by simp), fun hh => by have := hX _ hh; omega, by omega, fun k hk => by have := hX k hk; omega, T0.trans' t⟩) (fun X pre W W' hi ht => hi.step ht) (fun X W W' hi ht => hi.step ht) ?_ ?_ ?_ ?_
    · intro l x W K hK
      unfold ax kv at hK
      unfold kv
      gi_wp2
      exact hK
    · rintro l X pre x b W hi hb hX ⟨post, hpost⟩
      have hbx : W.heap[b]? = some (.cells #[.int .u16 x.1, .string x.2] 36 (0, 0)) := hb
      have b0 : W.cell? ⟨b, 0, none⟩ = some (.int .u16 x.1) := by simp [World.cell?, hbx]
      have b1 : W.cell? ⟨b, 1, none⟩ = some (.string x.2) := by simp [World.cell?, hbx]
      have hbl := block_lt hb
      obtain ⟨i1, i2, i3, i4, i5⟩ := hi
      have hk := HX.out.keep i5
      obtain ⟨a, c, hac, hcap, hform⟩ := (rk7.keep i5).form
      have hpl : pre.length < xs.length := by rw [hpost]; simp
      obtain ⟨g, rfl⟩ := hform pre.length hpl
      rw [hac] at r7 rk7
      have hcl := own_cells (rk7.keep i5) pre.length hpl
      have hxx : xs[pre.length] = x := by simp [hpost]
      rw [hxx] at hcl
      obtain ⟨y0, y1⟩ := hcl
      have p7 : W.cell? ⟨b7, 1, none⟩ = some (.slice (some ⟨g, 0, none⟩) xs.length c) := by have := i5.keep r7 (by simp); simp [World.cell?, this]
      have p10 : W.cell? ⟨wc.heap.size + 1, 0, none⟩ = some (.int .i64 (pre.length : Int)) := by simp [World.cell?, i1]
      have q10 : W.frozen? ⟨wc.heap.size + 1, 0, none⟩ = false := by simp [World.frozen?, i1]
      have p3 : W.cell? ⟨w.heap.size, 0, none⟩ = some (.int .i64 stop) := by have := hk.b0; simp [World.cell?, this]
      have p4 : W.cell? ⟨w.heap.size + 1, 0, none⟩ = some (.bool false) := by have := hk.b1; simp [World.cell?, this]
      have q4 : W.frozen? ⟨w.heap.size + 1, 0, none⟩ = false := by have := hk.b1; simp [World.frozen?, this]
      unfold ax kv
      simp only [List.setIfInBounds_toArray, List.set_cons_zero, List.set_cons_succ]
      have HI := hid (And.intro i1 (And.intro i2 (And.intro i3 (And.intro i4 i5))))
      have HXl : Hid (∀ k ∈ X, k < W.heap.size) := fun k hk => by have := hX k hk; omega
      have hl1 : wc.heap.size + 1 < W.heap.size := block_lt i1
      have hl2 : b7 < W.heap.size := block_lt (i5.keep r7 (by simp))
      have hl3 : w.heap.size + 1 < W.heap.size := block_lt hk.b1
      have hl4 : w.heap.size < W.heap.size := block_lt hk.b0
      have hl5 : g < W.heap.size := ((rk7.keep i5).lt g rfl).2
      have HRf := fun w => hid (ref14 w x)
      have HF : Hid (∀ w6, Touch [] W w6 → Touch [] W w6 ∧ w6.cell? ⟨wc.heap.size + 1, 0, none⟩ = some (.int .i64 (pre.length : Int)) ∧ w6.frozen? ⟨wc.heap.size + 1, 0, none⟩ = false ∧ w6.cell? ⟨b7, 1, none⟩ = some (.slice (some ⟨g, 0, none⟩) xs.length c) ∧ w6.cell? ⟨g, pre.length * 2, none⟩ = some (.int .u16 x.1) ∧ w6.cell? ⟨g, pre.length * 2 + 1, none⟩ = some (.string x.2) ∧ w6.cell? ⟨w.heap.size, 0, none⟩ = some (.int .i64 stop) ∧ w6.cell? ⟨w.heap.size + 1, 0, none⟩ = some (.bool false) ∧ w6.frozen? ⟨w.heap.size + 1, 0, none⟩ = false) := fun w6 t => by
        have tt : Touch [] W w6 := t
        refine ⟨tt, ?_, ?_, ?_, ?_, ?_, ?_, ?_, ?_⟩
        · exact (World.cell?_of_block (tt.block _ hl1 (by simp))).trans p10
        · have := tt.keep i1 (by simp); simp [World.frozen?, this]
        · exact (World.cell?_of_block (tt.block _ hl2 (by simp))).trans p7
        · exact (World.cell?_of_block (tt.block _ hl5 (by simp))).trans y0
        · exact (World.cell?_of_block (tt.block _ hl5 (by simp))).trans y1
        · exact (World.cell?_of_block (tt.block _ hl4 (by simp))).trans p3
        · exact (World.cell?_of_block (tt.block _ hl3 (by simp))).trans p4
        · have := tt.keep hk.b1 (by simp); simp [World.frozen?, this]
      have nk := fun w => neqk w x x
      rw [decide_eq_false (fun h => h rfl)] at nk
      unfold kv at nk HRf
      obtain ⟨n, hn⟩ : ∃ n, n = pre.length := ⟨_, rfl⟩
      rw [← hn] at p10 y0 y1 hpl HF
      have HNn := hid hn
      have zn : (n : Int) < (xs.length : Int) := by omega
      have zl : (xs.length : Int) ≤ 100 := by omega
      have HB1 := hid hk.b1
      clear hn i1 i2 i3 i4 i5 hk hxx hpost r7 rk7 f1 f2 hX hb hbx k0 k1 T0 z0 hform hac ht HX hx
      have sA : ∀ w', Touch [] W w' → w'.cell? ⟨wc.heap.size + 1, 0, none⟩ = some (.int .i64 (n : Int)) := fun w' t => (HF.out w' t).2.1
      have sB : ∀ w', Touch [] W w' → w'.cell? ⟨b7, 1, none⟩ = some (.slice (some ⟨g, 0, none⟩) xs.length c) := fun w' t => (HF.out w' t).2.2.2.1
      have sE : ∀ w', Touch [] W w' → w'.cell? ⟨g, n * 2, none⟩ = some (.int .u16 x.1) := fun w' t => (HF.out w' t).2.2.2.2.1
      have sF : ∀ w', Touch [] W w' → w'.cell? ⟨g, n * 2 + 1, none⟩ = some (.string x.2) := fun w' t => (HF.out w' t).2.2.2.2.2.1
      have sC : ∀ w', Touch [] W w' → w'.cell? ⟨b, 0, none⟩ = some (.int .u16 x.1) := fun w' t => (World.cell?_of_block (t.block _ hbl (by simp))).trans b0
      have sD : ∀ w', Touch [] W w' → w'.cell? ⟨b, 1, none⟩ = some (.string x.2) := fun w' t => (World.cell?_of_block (t.block _ hbl (by simp))).trans b1
      gi_wp2
      refine region_round (S := fun w' => Touch [] W w') (by kernel_rfl) (fun h => by obtain ⟨_, _, h⟩ := h; exact h) (by rfl) ?_
      have hS0 : Touch [] W W.drew := (Touch.refl _ _).drew
      refine wpH_take (i := 0) (v := .int .i64 (n : Int)) (some 58) rfl rfl (by kernel_rfl) (by kernel_rfl) (by kernel_rfl) (fun _ _ _ h => h) (Or.inl ⟨by rfl, fun w' hS => (by have z0 := sA _ hS; go_simp)⟩) hS0 ?_
      try simp only [Go.Act.put, List.setIfInBounds_toArray, List.set_cons_zero, List.set_cons_succ]
      refine wpH_take (i := 1) (v := .pointer (some ⟨b7, 1, none⟩)) (some 59) rfl rfl (by kernel_rfl) (by kernel_rfl) (by kernel_rfl) (fun _ _ _ h => h) (Or.inl ⟨by rfl, fun w' hS => (by go_simp)⟩) hS0 ?_
      try simp only [Go.Act.put, List.setIfInBounds_toArray, List.set_cons_zero, List.set_cons_succ]
      refine wpH_take (i := 2) (v := .slice (some ⟨g, 0, none⟩) xs.length c) (some 60) rfl rfl (by kernel_rfl) (by kernel_rfl) (by kernel_rfl) (fun _ _ _ h => h) (Or.inl ⟨by rfl, fun w' hS => (by have z0 := sB _ hS; go_simp)⟩) hS0 ?_
      try simp only [Go.Act.put, List.setIfInBounds_toArray, List.set_cons_zero, List.set_cons_succ]
      refine wpH_take (i := 3) (v := .int .i64 (xs.length : Int)) (some 61) rfl rfl (by kernel_rfl) (by kernel_rfl) (by kernel_rfl) (fun _ _ _ h => h) (Or.inl ⟨by rfl, fun w' hS => (by go_simp)⟩) hS0 ?_
      try simp only [Go.Act.put, List.setIfInBounds_toArray, List.set_cons_zero, List.set_cons_succ]
      refine wpH_take (i := 4) (v := .bool false) (some 62) rfl rfl (by kernel_rfl) (by kernel_rfl) (by kernel_rfl) (fun _ _ _ h => h) (Or.inl ⟨by rfl, fun w' hS => (by go_simp)⟩) hS0 ?_
      try simp only [Go.Act.put, List.setIfInBounds_toArray, List.set_cons_zero, List.set_cons_succ]
      refine wpH_take (i := 5) (v := .bool false) (some 63) rfl rfl (by kernel_rfl) (by kernel_rfl) (by kernel_rfl) (fun _ _ _ h => h) (Or.inl ⟨by rfl, fun w' hS => (by go_simp)⟩) hS0 ?_
      try simp only [Go.Act.put, List.setIfInBounds_toArray, List.set_cons_zero, List.set_cons_succ]
      refine wpH_take (i := 6) (v := .agg #[.int .u16 x.1, .string x.2]) (some 64) rfl rfl (by kernel_rfl) (by kernel_rfl) (by kernel_rfl) (fun _ _ _ h => h) (Or.inl ⟨by rfl, fun w' hS => (by have z0 := sC _ hS; have z1 := sD _ hS; go_simp)⟩) hS0 ?_
      try simp only [Go.Act.put, List.setIfInBounds_toArray, List.set_cons_zero, List.set_cons_succ]
      refine wpH_take (i := 8) (v := .pointer (some ⟨b7, 1, none⟩)) (some 66) rfl rfl (by kernel_rfl) (by kernel_rfl) (by kernel_rfl) (fun _ _ _ h => h) (Or.inl ⟨by rfl, fun w' hS => (by go_simp)⟩) hS0 ?_
      try simp only [Go.Act.put, List.setIfInBounds_toArray, List.set_cons_zero, List.set_cons_succ]
      refine wpH_take (i := 9) (v := .slice (some ⟨g, 0, none⟩) xs.length c) (some 67) rfl rfl (by kernel_rfl) (by kernel_rfl) (by kernel_rfl) (fun _ _ _ h => h) (Or.inl ⟨by rfl, fun w' hS => (by have z0 := sB _ hS; go_simp)⟩) hS0 ?_
      try simp only [Go.Act.put, List.setIfInBounds_toArray, List.set_cons_zero, List.set_cons_succ]
      refine wpH_take (i := 10) (v := .int .i64 (n : Int)) (some 68) rfl rfl (by kernel_rfl) (by kernel_rfl) (by kernel_rfl) (fun _ _ _ h => h) (Or.inl ⟨by rfl, fun w' hS => (by have z0 := sA _ hS; go_simp)⟩) hS0 ?_
      try simp only [Go.Act.put, List.setIfInBounds_toArray, List.set_cons_zero, List.set_cons_succ]
      refine wpH_take (i := 11) (v := .pointer (some ⟨g, n * 2, none⟩)) (some 69) rfl rfl (by kernel_rfl) (by kernel_rfl) (by kernel_rfl) (fun _ _ _ h => h) (Or.inl ⟨by rfl, fun w' hS => (by go_simp)⟩) hS0 ?_
      try simp only [Go.Act.put, List.setIfInBounds_toArray, List.set_cons_zero, List.set_cons_succ]
      refine wpH_take (i := 12) (v := .agg #[.int .u16 x.1, .string x.2]) (some 70) rfl rfl (by kernel_rfl) (by kernel_rfl) (by kernel_rfl) (fun _ _ _ h => h) (Or.inl ⟨by rfl, fun w' hS => (by have z0 := sE _ hS; have z1 := sF _ hS; go_simp)⟩) hS0 ?_
      try simp only [Go.Act.put, List.setIfInBounds_toArray, List.set_cons_zero, List.set_cons_succ]
      refine wpH_call (i := 7) (o := { dst := some 65, op := Op.call { callee := Callee.value (Operand.func 14), args := #[Operand.tmp 64], argTypes := #[36] }, type := 44, pos := _, after := #[{ on := 6, ground := Ground.data }, { on := 5, ground := Ground.chain }, { on := 5, ground := Ground.guard }], guard := some (5, false) }) (by kernel_rfl) rfl (fun K' hK => ?_)
      rw [if_pos (by rfl)]
      go_simp
      refine ((HRf _).out).mono ?_
      rintro e w6 ⟨rfl, t6⟩
      have hS6 := hS0.trans' t6
      clear t6
      refine hK.out _ _ hS6 ?_
      clear hK
      try simp only [Go.Act.put, List.setIfInBounds_toArray, List.set_cons_zero, List.set_cons_succ]
      refine wpH_take (i := 13) (v := .bool false) (some 71) rfl rfl (by kernel_rfl) (by kernel_rfl) (by kernel_rfl) (fun _ _ _ h => h) (Or.inl ⟨by rfl, fun w' hS => (by go_simp)⟩) hS6 ?_
      try simp only [Go.Act.put, List.setIfInBounds_toArray, List.set_cons_zero, List.set_cons_succ]
      refine wpH_take (i := 14) (v := .bool false) (some 72) rfl rfl (by kernel_rfl) (by kernel_rfl) (by kernel_rfl) (fun _ _ _ h => h) (Or.inl ⟨by rfl, fun w' hS => (by go_simp)⟩) hS6 ?_
      try simp only [Go.Act.put, List.setIfInBounds_toArray, List.set_cons_zero, List.set_cons_succ]
      refine wpAnyH_done (by kernel_rfl) ?_ _
      obtain ⟨T6, d0, d1, d2, d3, d4, d5, d6, d7⟩ := HF.out w6 hS6
      have h10 : wc.heap.size + 1 ≠ w.heap.size := by have := HO.out; omega
      clear sA sB sC sD sE sF hS0 HRf nk p10 q10 p7 p3 p4 q4 y0 y1 b0 b1 HF
      by_cases hst : ((n : Int) + 1 == stop) = true
      · gi_wp2
        obtain ⟨i1, i2, i3, i4, i5⟩ := HI.out
        refine ⟨fun k hk => ?_, bset ((Below.heap_setCell _ _ _ _ (by show w.heap.size + 1 ≠ wc.heap.size + 1; omega)).trans (T6.keep HB1.out (by simp))) _, fun hh => by have := i4 _ hh; omega, fun k hk => Nat.le_trans hzw (i4 k hk), (((HTW.out.trans' i5).trans' T6).setCell (Or.inr (by show w.heap.size ≤ wc.heap.size + 1; omega)) _).setCell (Or.inr (by show w.heap.size ≤ w.heap.size + 1; omega)) _⟩
        have hk1 := i4 k hk
        exact (Below.heap_setCell _ _ _ _ (by show k ≠ w.heap.size + 1; omega)).trans ((Below.heap_setCell _ _ _ _ (fun (e : k = wc.heap.size + 1) => i2 (e ▸ hk))).trans (T6.block k (HXl.out k hk) (by simp)))
      · have hst : ((n : Int) + 1 == stop) = false := by simpa using hst
        gi_wp2
        obtain ⟨i1, i2, i3, i4, i5⟩ := HI.out
        refine ⟨fun k hk => (Below.heap_setCell _ _ _ _ (fun (e : k = wc.heap.size + 1) => i2 (e ▸ hk))).trans (T6.block k (HXl.out k hk) (by simp)), ?_, i2, i3, i4, (i5.trans' T6).setCell (Or.inr i3) _⟩
        have e9 : (((pre ++ [x]).length : Nat) : Int) = (n : Int) + 1 := by rw [HNn.out]; simp
        rw [e9]
        exact bset (T6.keep i1 (by simp)) _
    · rintro X D W hD hDX hi hK
      obtain ⟨i1, i2, i3, i4, i5⟩ := hi
      have hk := HX.out.keep i5
      obtain ⟨a, c, hac, hcap, hform⟩ := (rk7.keep i5).form
      rw [hac] at r7
      have p7 : W.cell? ⟨b7, 1, none⟩ = some (.slice a xs.length c) := by have := i5.keep r7 (by simp); simp [World.cell?, this]
      have p10 : W.cell? ⟨wc.heap.size + 1, 0, none⟩ = some (.int .i64 (xs.length : Int)) := by simp [World.cell?, i1]
      have p4 : W.cell? ⟨w.heap.size + 1, 0, none⟩ = some (.bool false) := by have := hk.b1; simp [World.cell?, this]
      have q4 : W.frozen? ⟨w.heap.size + 1, 0, none⟩ = false := by have := hk.b1; simp [World.frozen?, this]
      have hDn : D ≠ w.heap.size + 1 := by omega
      have HE : Hid (((W.setCell ⟨w.heap.size + 1, 0, none⟩ (.bool true)).putObj D (.deferred none)).heap[w.heap.size + 1]? = some (.cells #[.bool true] 4 (0, 0)) ∧ Touch [] w ((W.setCell ⟨w.heap.size + 1, 0, none⟩ (.bool true)).putObj D (.deferred none))) := by
        refine ⟨(World.putObj_heap_other (Ne.symm hDn)).trans (bset hk.b1 _), ?_⟩
        exact (((HTW.out.trans' i5).setCell (Or.inr (by show w.heap.size ≤ w.heap.size + 1; omega)) _)).trans (touch_putObj (X := [D]) _ (.deferred none) (by simp)) (fun i hi => by simp only [List.mem_singleton] at hi; subst hi; exact Or.inr (by omega))
      have HKD := hid ((Below.heap_setCell W ⟨w.heap.size + 1, 0, none⟩ (.bool true) D hDn).trans hK)
      clear hK i1 i2 i3 i4 i5 hk hform hac
      unfold dfr
      go_wp2
      refine ⟨by simp, .inl ⟨_, _, rfl, run_takeDeferred HKD.out, ?_⟩⟩
      have e0 := HE.out.1
      have e1 : ((W.setCell ⟨w.heap.size + 1, 0, none⟩ (.bool true)).putObj D (.deferred none)).cell? ⟨w.heap.size + 1, 0, none⟩ = some (.bool true) := by simp [World.cell?, e0]
      exact ⟨.bool true, by simp [results, Try.results4, go_sem, e1], rfl, HE.out.2⟩
    · rintro X D W hD hDX hi hK
      obtain ⟨i1, i2, i3, i4⟩ := hi
      have hDn : D ≠ w.heap.size + 1 := by omega
      have HE : Hid ((W.putObj D (.deferred none)).heap[w.heap.size + 1]? = some (.cells #[.bool true] 4 (0, 0)) ∧ Touch [] w (W.putObj D (.deferred none))) := by
        refine ⟨(World.putObj_heap_other (Ne.symm hDn)).trans i1, ?_⟩
        exact i4.trans (touch_putObj (X := [D]) _ (.deferred none) (by simp)) (fun i hi => by simp only [List.mem_singleton] at hi; subst hi; exact Or.inr (by omega))
      have HKD := hid hK
      clear hK i1 i2 i3 i4
      unfold dfr
      gi_wp2
      refine ⟨by simp, .inl ⟨_, _, rfl, run_takeDeferred HKD.out, ?_⟩⟩
      have e0 := HE.out.1
      have e1 : (W.putObj D (.deferred none)).cell? ⟨w.heap.size + 1, 0, none⟩ = some (.bool true) := by simp [World.cell?, e0]
      exact ⟨.bool true, by simp [results, Try.results4, go_sem, e1], rfl, HE.out.2⟩
end Go.Proofs.Ytjcdloijodfpgaa
