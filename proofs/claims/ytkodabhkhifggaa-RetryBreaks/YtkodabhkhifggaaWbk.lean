/- The program's breaker in memory, its plain steps, and the contracts of its methods, nil ones too; their conditions: those of the invariant. -/
import Derived.Test.YtkodabhkhifggaaWww
namespace Go.Proofs.Ytkodabhkhifggaa
open Go.RowKit Go.Maps Go.ChangeMaps Go.ChangeShapes Go.WideShapes Go.ChangeAt
set_option linter.unusedVariables false
set_option linter.unusedSimpArgs false
/-- A breaker: how many may fail, how long it is open, how it stands, how many failed, until when, the tick so far. -/
structure Br where
  fl : Int
  co : Int
  st : Int
  fd : Int
  un : Int
  tm : Int
structure Iv (S : Br) : Prop where
  f1 : 1 ≤ S.fl
  f2 : S.fl ≤ 9223372036854775807
  c1 : 0 ≤ S.co
  c2 : S.co ≤ 9223372036854775807
  s : S.st = 1 ∨ S.st = 2 ∨ S.st = 3
  d1 : 0 ≤ S.fd
  d2 : S.fd < S.fl
  t1 : 0 ≤ S.tm
  t2 : S.tm ≤ 4611686018427387904
def aft (n d : Int) : Int := if 4611686018427387904 - n < d then 4611686018427387904 else n + d
def isT (t : Int) : Bool := decide (0 ≤ t) && decide (t ≤ 4611686018427387904)
theorem is_ (t : Int) (w : World) : Calls Try.prog 34 #[.int .i64 t] w fun e w' => e = .returned (.bool (isT t)) ∧ w' = w := by
  by_cases h0 : 0 ≤ t
  · by_cases h1 : t ≤ 4611686018427387904
    · go_enter Try.func34, Try.ntmps34
      go_wp2
      go_ret
      exact ⟨by simp [isT, h0, h1], rfl⟩
    · go_enter Try.func34, Try.ntmps34
      go_wp2
      go_ret
      exact ⟨by simp [isT, h1], rfl⟩
  · have hn : isT t = false := by simp [isT]; omega
    rw [hn]
    go_enter Try.func34, Try.ntmps34
    go_wp2
    go_ret
    exact ⟨rfl, rfl⟩
theorem isT_yes {t : Int} (h : 0 ≤ t) (h2 : t ≤ 4611686018427387904) : isT t = true := by unfold isT; simp; omega
theorem after_ (n d : Int) (w : World) (h1 : 0 ≤ n) (h2 : n ≤ 4611686018427387904) (h3 : 0 ≤ d) (h4 : d ≤ 9223372036854775807) : Calls Try.prog 39 #[.int .i64 n, .int .i64 d] w fun e w' => (∃ k, e = .returned (.tuple #[.int .i64 (aft n d), .bool k])) ∧ w' = w := by
  have H1 := is_ n
  rw [isT_yes h1 h2] at H1
  have hw : IntKind.i64.wrap (4611686018427387904 - n) = 4611686018427387904 - n := by simp [IntKind.wrap, IntKind.bits, IntKind.signed, IntKind.min, IntKind.max]; omega
  by_cases hz : 4611686018427387904 - n < d
  · have e1 : aft n d = 4611686018427387904 := by unfold aft; rw [if_pos hz]
    rw [e1]
    clear e1
    go_enter Try.func39, Try.ntmps39
    go_wp2_with (go_at_call 34; refine (H1 _).mono ?_; rintro e w2 ⟨rfl, rfl⟩)
    exact bodyPost_ret (v := .tuple #[.int .i64 4611686018427387904, .bool false]) (by simp [results, Try.results39, go_sem]) rfl ⟨⟨_, rfl⟩, rfl⟩
  · have e1 : aft n d = n + d := by unfold aft; rw [if_neg hz]
    have hv : IntKind.i64.wrap (n + d) = n + d := by simp [IntKind.wrap, IntKind.bits, IntKind.signed, IntKind.min, IntKind.max]; omega
    rw [e1]
    clear e1
    go_enter Try.func39, Try.ntmps39
    go_wp2_with (go_at_call 34; refine (H1 _).mono ?_; rintro e w2 ⟨rfl, rfl⟩)
    exact bodyPost_ret (v := .tuple #[.int .i64 (n + d), .bool true]) (by simp [results, Try.results39, go_sem]) rfl ⟨⟨_, rfl⟩, rfl⟩
theorem isT_no {t : Int} (h : ¬ (0 ≤ t ∧ t ≤ 4611686018427387904)) : isT t = false := by unfold isT; simp; omega
def wrE (S : Br) (x : Int) : Int := if isT x then (if x < S.tm then 101 else 0) else 10
theorem wr_cases (S : Br) (x : Int) : (isT x = false ∧ wrE S x = 10) ∨ (isT x = true ∧ x < S.tm ∧ wrE S x = 101) ∨ (isT x = true ∧ S.tm ≤ x ∧ wrE S x = 0 ∧ 0 ≤ x ∧ x ≤ 4611686018427387904) := by
  unfold wrE
  cases h : isT x with
  | false => exact Or.inl ⟨rfl, rfl⟩
  | true =>
    by_cases h2 : x < S.tm
    · exact Or.inr (Or.inl ⟨rfl, h2, by simp [h2]⟩)
    · refine Or.inr (Or.inr ⟨rfl, by omega, by simp [h2], ?_⟩)
      unfold isT at h
      simpa using h
/-- Asked at a tick. -/
def askM (S : Br) (x : Int) : Br := if S.st = 2 ∧ S.un ≤ x then { S with tm := x, st := 3 } else { S with tm := x }
def askS (S : Br) (x : Int) : Br := if wrE S x = 0 then askM S x else S
def askB (S : Br) (x : Int) : Bool := decide (wrE S x = 0) && (decide (S.st = 2 ∧ S.un ≤ x) || decide (S.st = 1))
def opS (S : Br) (x : Int) : Br := { S with st := 2, fd := 0, un := aft x S.co }
def donM (S : Br) (x : Int) (f : Bool) : Br := if S.st = 2 then { S with tm := x } else if f then { S with tm := x, st := 1, fd := 0 } else if S.st = 3 ∨ S.fl ≤ S.fd + 1 then opS { S with tm := x } x else { S with tm := x, fd := S.fd + 1 }
def donS (S : Br) (x : Int) (f : Bool) : Br := if wrE S x = 0 then donM S x f else S
theorem Iv.ask {S : Br} (h : Iv S) (x : Int) : Iv (askS S x) := by
  unfold askS
  rcases wr_cases S x with ⟨_, e⟩ | ⟨_, _, e⟩ | ⟨_, _, e, g1, g2⟩
  · rw [e, if_neg (by decide)]; exact h
  · rw [e, if_neg (by decide)]; exact h
  · rw [if_pos e]
    unfold askM
    split
    · exact ⟨h.f1, h.f2, h.c1, h.c2, Or.inr (Or.inr rfl), h.d1, h.d2, g1, g2⟩
    · exact ⟨h.f1, h.f2, h.c1, h.c2, h.s, h.d1, h.d2, g1, g2⟩
theorem Iv.don {S : Br} (h : Iv S) (x : Int) (f : Bool) : Iv (donS S x f) := by
  unfold donS
  rcases wr_cases S x with ⟨_, e⟩ | ⟨_, _, e⟩ | ⟨_, _, e, g1, g2⟩
  · rw [e, if_neg (by decide)]; exact h
  · rw [e, if_neg (by decide)]; exact h
  · rw [if_pos e]
    have h0 : 0 < S.fl := by have := h.f1; omega
    unfold donM
    split
    · exact ⟨h.f1, h.f2, h.c1, h.c2, h.s, h.d1, h.d2, g1, g2⟩
    · split
      · exact ⟨h.f1, h.f2, h.c1, h.c2, Or.inl rfl, Int.le_refl 0, h0, g1, g2⟩
      · split
        · exact ⟨h.f1, h.f2, h.c1, h.c2, Or.inr (Or.inl rfl), Int.le_refl 0, h0, g1, g2⟩
        · rename_i h3
          exact ⟨h.f1, h.f2, h.c1, h.c2, h.s, by have := h.d1; show 0 ≤ S.fd + 1; omega, by show S.fd + 1 < S.fl; omega, g1, g2⟩
def bc (S : Br) : Array Value := #[.int .i64 S.fl, .int .i64 S.co, .int .i64 S.tm, .int .i64 S.st, .int .i64 S.fd, .int .i64 S.un]
def Bk (w : World) (b : Nat) (S : Br) : Prop := w.heap[b]? = some (.cells (bc S) 73 (0, 0))
section
variable {w : World} {b : Nat} {S : Br}
theorem Bk.lt (h : Bk w b S) : b < w.heap.size := block_lt h
theorem Bk.keep0 {w' : World} (h : Bk w b S) (T : Touch [] w w') : Bk w' b S := T.keep h (by simp)
theorem Bk.c (h : Bk w b S) : w.cell? ⟨b, 0, none⟩ = some (.int .i64 S.fl) ∧ w.cell? ⟨b, 1, none⟩ = some (.int .i64 S.co) ∧ w.cell? ⟨b, 2, none⟩ = some (.int .i64 S.tm) ∧ w.cell? ⟨b, 3, none⟩ = some (.int .i64 S.st) ∧ w.cell? ⟨b, 4, none⟩ = some (.int .i64 S.fd) ∧ w.cell? ⟨b, 5, none⟩ = some (.int .i64 S.un) ∧ ∀ j, w.frozen? ⟨b, j, none⟩ = false :=
  ⟨cell_at h rfl, cell_at h rfl, cell_at h rfl, cell_at h rfl, cell_at h rfl, cell_at h rfl, froz_at h⟩
theorem Bk.s2 (h : Bk w b S) (x : Int) : Bk (w.setCell ⟨b, 2, none⟩ (.int .i64 x)) b { S with tm := x } := bset (i := 2) h _
theorem Bk.s3 (h : Bk w b S) (x : Int) : Bk (w.setCell ⟨b, 3, none⟩ (.int .i64 x)) b { S with st := x } := bset (i := 3) h _
theorem Bk.s4 (h : Bk w b S) (x : Int) : Bk (w.setCell ⟨b, 4, none⟩ (.int .i64 x)) b { S with fd := x } := bset (i := 4) h _
theorem Bk.s5 (h : Bk w b S) (x : Int) : Bk (w.setCell ⟨b, 5, none⟩ (.int .i64 x)) b { S with un := x } := bset (i := 5) h _
theorem tset1 {w0 : World} (T : Touch [b] w0 w) (j : Nat) (v : Value) : Touch [b] w0 (w.setCell ⟨b, j, none⟩ v) := T.setCell (Or.inl (by simp)) v
theorem tell_ (h : Bk w b S) (x : Int) : Calls Try.prog 30 #[PT b, .int .i64 x] w fun e w' => e = .returned (.int .i64 (wrE S x)) ∧ w' = if wrE S x = 0 then w.setCell ⟨b, 2, none⟩ (.int .i64 x) else w := by
  have H1 := hid (is_ x)
  obtain ⟨c0, c1, c2, c3, c4, c5, cf⟩ := h.c
  clear h
  unfold PT
  rcases wr_cases S x with ⟨g, e⟩ | ⟨g, g1, e⟩ | ⟨g, g1, e, g2, g3⟩ <;> rw [e] <;> rw [g] at H1 <;> clear e g
  · go_enter Try.func30, Try.ntmps30
    go_wp2_with (go_at_call 34; refine (H1.out _).mono ?_; rintro e w2 ⟨rfl, e2⟩; rw [e2]; clear e2 w2)
    go_ret
    exact ⟨rfl, rfl⟩
  · go_enter Try.func30, Try.ntmps30
    go_wp2_with (go_at_call 34; refine (H1.out _).mono ?_; rintro e w2 ⟨rfl, e2⟩; rw [e2]; clear e2 w2)
    go_ret
    exact ⟨rfl, rfl⟩
  · go_enter Try.func30, Try.ntmps30
    go_wp2_with (go_at_call 34; refine (H1.out _).mono ?_; rintro e w2 ⟨rfl, e2⟩; rw [e2]; clear e2 w2)
    go_ret
    exact ⟨rfl, rfl⟩
theorem tell_nil (w : World) (x : Int) : Calls Try.prog 30 #[.pointer none, .int .i64 x] w fun e w' => e = .returned (.int .i64 1) ∧ w' = w := by
  go_enter Try.func30, Try.ntmps30
  go_wp2
  go_ret
  exact ⟨rfl, rfl⟩
theorem ask_ (h : Bk w b S) (x : Int) : Calls Try.prog 17 #[PT b, .int .i64 x] w fun e w' => e = .returned (.tuple #[.bool (askB S x), .int .i64 (wrE S x)]) ∧ Bk w' b (askS S x) ∧ Touch [b] w w' := by
  have HT := hid (tell_ h x)
  have HS : Hid (Touch [b] w w) := hid (Touch.refl _ _)
  by_cases e : wrE S x = 0
  · have e1 : askS S x = askM S x := if_pos e
    have e2 : askB S x = (decide (S.st = 2 ∧ S.un ≤ x) || decide (S.st = 1)) := by unfold askB; rw [decide_eq_true e, Bool.true_and]
    rw [e1, e2, e]
    rw [e, if_pos rfl] at HT
    have h1 := h.s2 x
    have T1 := hid (tset1 (Touch.refl [b] w) 2 (.int .i64 x))
    obtain ⟨W1, hW1⟩ : ∃ W1, W1 = w.setCell ⟨b, 2, none⟩ (.int .i64 x) := ⟨_, rfl⟩
    rw [← hW1] at HT h1 T1
    clear hW1 e e1 e2
    obtain ⟨c0, c1, c2, c3, c4, c5, cf⟩ := h1.c
    have H1 := hid h1
    clear h1 h
    unfold askM PT at *
    by_cases k1 : S.st = 2
    · by_cases k2 : S.un ≤ x
      · rw [if_pos ⟨k1, k2⟩, show (decide (S.st = 2 ∧ S.un ≤ x) || decide (S.st = 1)) = true by simp [k1, k2]]
        have HB := hid (H1.out.s3 3)
        have HB2 := hid (tset1 T1.out 3 (.int .i64 3))
        dsimp only at *
        rw [k1] at c3
        clear H1 k1
        go_enter Try.func17, Try.ntmps17
        go_wp2_with (go_at_call 30; refine (HT.out).mono ?_; rintro e w2 ⟨rfl, e2⟩; rw [e2]; clear e2 w2)
        exact bodyPost_ret (v := .tuple #[.bool true, .int .i64 0]) (by simp [results, Try.results17, go_sem]) rfl ⟨rfl, HB.out, HB2.out⟩
      · rw [if_neg (fun hh => k2 hh.2), show (decide (S.st = 2 ∧ S.un ≤ x) || decide (S.st = 1)) = false by simp [k1, k2]]
        dsimp only at *
        rw [k1] at c3
        clear k1
        go_enter Try.func17, Try.ntmps17
        go_wp2_with (go_at_call 30; refine (HT.out).mono ?_; rintro e w2 ⟨rfl, e2⟩; rw [e2]; clear e2 w2)
        exact bodyPost_ret (v := .tuple #[.bool false, .int .i64 0]) (by simp [results, Try.results17, go_sem]) rfl ⟨rfl, H1.out, T1.out⟩
    · rw [if_neg (fun hh => k1 hh.1), show (decide (S.st = 2 ∧ S.un ≤ x) || decide (S.st = 1)) = (S.st == 1) by rw [Bool.eq_iff_iff]; simp [k1]]
      have k3 : (S.st == 2) = false := by simpa using k1
      dsimp only at *
      clear k1
      go_enter Try.func17, Try.ntmps17
      go_wp2_with (go_at_call 30; refine (HT.out).mono ?_; rintro e w2 ⟨rfl, e2⟩; rw [e2]; clear e2 w2)
      exact bodyPost_ret (v := .tuple #[.bool (S.st == 1), .int .i64 0]) (by simp [results, Try.results17, go_sem]) rfl ⟨rfl, H1.out, T1.out⟩
  · have e1 : askS S x = S := if_neg e
    have e2 : askB S x = false := by unfold askB; rw [decide_eq_false e, Bool.false_and]
    rw [e1, e2]
    rw [if_neg e] at HT
    have k : (wrE S x != 0) = true := by simpa using e
    have H1 := hid h
    clear e e1 e2 h
    generalize wrE S x = E at *
    unfold PT at *
    go_enter Try.func17, Try.ntmps17
    go_wp2_with (go_at_call 30; refine (HT.out).mono ?_; rintro e w2 ⟨rfl, e2⟩; rw [e2]; clear e2 w2)
    exact bodyPost_ret (v := .tuple #[.bool false, .int .i64 E]) (by simp [results, Try.results17, go_sem]) rfl ⟨rfl, H1.out, HS.out⟩
theorem ask_nil (w : World) (x : Int) : Calls Try.prog 17 #[.pointer none, .int .i64 x] w fun e w' => e = .returned (.tuple #[.bool false, .int .i64 1]) ∧ w' = w := by
  have HT := hid (tell_nil w x)
  go_enter Try.func17, Try.ntmps17
  go_wp2_with (go_at_call 30; refine (HT.out).mono ?_; rintro e w2 ⟨rfl, e2⟩; rw [e2]; clear e2 w2)
  exact bodyPost_ret (v := .tuple #[.bool false, .int .i64 1]) (by simp [results, Try.results17, go_sem]) rfl ⟨rfl, rfl⟩
theorem open_ (h : Bk w b S) (x : Int) (hx1 : 0 ≤ x) (hx2 : x ≤ 4611686018427387904) (hc1 : 0 ≤ S.co) (hc2 : S.co ≤ 9223372036854775807) : Calls Try.prog 32 #[PT b, .int .i64 x] w fun e w' => e = .returned (.tuple #[]) ∧ Bk w' b (opS S x) ∧ Touch [b] w w' := by
  have HA := hid (fun W => after_ x S.co W hx1 hx2 hc1 hc2)
  obtain ⟨c0, c1, c2, c3, c4, c5, cf⟩ := h.c
  have H1 := hid (((h.s3 2).s4 0).s5 (aft x S.co))
  have T1 := hid (tset1 (tset1 (tset1 (Touch.refl [b] w) 3 (.int .i64 2)) 4 (.int .i64 0)) 5 (.int .i64 (aft x S.co)))
  unfold opS PT at *
  clear h
  generalize aft x S.co = U at *
  go_enter Try.func32, Try.ntmps32
  go_wp2_with (go_at_call 39; refine (HA.out _).mono ?_; rintro e w2 ⟨⟨kk, rfl⟩, e2⟩; rw [e2]; clear e2 w2)
  go_end0
  exact ⟨rfl, H1.out, T1.out⟩
theorem done_ (h : Bk w b S) (hv : Iv S) (x : Int) (f : Bool) : Calls Try.prog 20 #[PT b, .int .i64 x, .bool f] w fun e w' => e = .returned (.int .i64 (wrE S x)) ∧ Bk w' b (donS S x f) ∧ Touch [b] w w' := by
  have HT := hid (tell_ h x)
  have HS : Hid (Touch [b] w w) := hid (Touch.refl _ _)
  by_cases e : wrE S x = 0
  · obtain ⟨g2, g3⟩ : 0 ≤ x ∧ x ≤ 4611686018427387904 := by
      rcases wr_cases S x with ⟨_, e'⟩ | ⟨_, _, e'⟩ | ⟨_, _, _, g⟩
      · rw [e'] at e; cases e
      · rw [e'] at e; cases e
      · exact g
    have e1 : donS S x f = donM S x f := if_pos e
    rw [e1, e]
    rw [e, if_pos rfl] at HT
    have h1 := h.s2 x
    have T1 := hid (tset1 (Touch.refl [b] w) 2 (.int .i64 x))
    obtain ⟨W1, hW1⟩ : ∃ W1, W1 = w.setCell ⟨b, 2, none⟩ (.int .i64 x) := ⟨_, rfl⟩
    rw [← hW1] at HT h1 T1
    clear hW1 e e1
    obtain ⟨c0, c1, c2, c3, c4, c5, cf⟩ := h1.c
    have H1 := hid h1
    have hv := hid hv
    clear h1 h HS
    unfold donM PT at *
    by_cases k1 : S.st = 2
    · rw [if_pos k1]
      dsimp only at *
      rw [k1] at c3
      clear k1
      go_enter Try.func20, Try.ntmps20
      go_wp2_with (go_at_call 30; refine (HT.out).mono ?_; rintro e w2 ⟨rfl, e2⟩; rw [e2]; clear e2 w2)
      go_ret
      exact ⟨rfl, H1.out, T1.out⟩
    · rw [if_neg k1]
      have k2 : (S.st == 2) = false := by simpa using k1
      cases f with
      | true =>
        rw [if_pos rfl]
        have HB := hid ((H1.out.s3 1).s4 0)
        have HB2 := hid (tset1 (tset1 T1.out 3 (.int .i64 1)) 4 (.int .i64 0))
        dsimp only at *
        clear k1 H1
        go_enter Try.func20, Try.ntmps20
        go_wp2_with (go_at_call 30; refine (HT.out).mono ?_; rintro e w2 ⟨rfl, e2⟩; rw [e2]; clear e2 w2)
        go_ret
        exact ⟨rfl, HB.out, HB2.out⟩
      | false =>
        rw [if_neg (by simp)]
        have b1 := hv.out.d1
        have b2 := hv.out.d2
        have b3 := hv.out.f2
        have HB := hid (H1.out.s4 (S.fd + 1))
        have HB2 := hid (tset1 T1.out 4 (.int .i64 (S.fd + 1)))
        obtain ⟨W2, hW2⟩ : ∃ W2, W2 = W1.setCell ⟨b, 4, none⟩ (.int .i64 (S.fd + 1)) := ⟨_, rfl⟩
        rw [← hW2] at HB HB2
        have HO := hid (fun n => open_ (w := W2.drewN n) (S := { S with tm := x, fd := S.fd + 1 }) HB.out x g2 g3 hv.out.c1 hv.out.c2)
        obtain ⟨d0, d1, d2, d3, d4, d5, df⟩ := HB.out.c
        dsimp only at *
        have bw : wrap64 (S.fd + 1) = S.fd + 1 := by unfold wrap64; omega
        by_cases k3 : S.st = 3
        · rw [if_pos (Or.inl k3)]
          rw [k3] at c3 d3
          clear k1 k2 k3
          go_enter Try.func20, Try.ntmps20
          go_upto_region 10 with (go_at_call 30; refine (HT.out).mono ?_; rintro e w2 ⟨rfl, e2⟩; rw [e2]; clear e2 w2)
          rw [← hW2]
          clear hW2
          go_quiet (fail)
          go_wp2_with (go_at_call 32; refine (HO.out _).mono ?_; rintro e w3 ⟨rfl, q1, q2⟩; have Q1 := hid q1; have Q2 := hid q2; clear q1 q2)
          go_ret
          exact ⟨rfl, Q1.out, (HB2.out.drewN _).trans' Q2.out⟩
        · have k4 : (S.st == 3) = false := by simpa using k3
          by_cases k5 : S.fl ≤ S.fd + 1
          · rw [if_pos (Or.inr k5)]
            clear k1 k3
            go_enter Try.func20, Try.ntmps20
            go_upto_region 10 with (go_at_call 30; refine (HT.out).mono ?_; rintro e w2 ⟨rfl, e2⟩; rw [e2]; clear e2 w2)
            rw [← hW2]
            clear hW2
            go_quiet (fail)
            go_wp2_with (go_at_call 32; refine (HO.out _).mono ?_; rintro e w3 ⟨rfl, q1, q2⟩; have Q1 := hid q1; have Q2 := hid q2; clear q1 q2)
            go_ret
            exact ⟨rfl, Q1.out, (HB2.out.drewN _).trans' Q2.out⟩
          · rw [if_neg (by omega)]
            clear k1 k3
            go_enter Try.func20, Try.ntmps20
            go_upto_region 10 with (go_at_call 30; refine (HT.out).mono ?_; rintro e w2 ⟨rfl, e2⟩; rw [e2]; clear e2 w2)
            rw [← hW2]
            clear hW2
            go_quiet (fail)
            go_wp2
            go_ret
            exact ⟨rfl, HB.out, HB2.out.drewN _⟩
  · have e1 : donS S x f = S := if_neg e
    rw [e1]
    rw [if_neg e] at HT
    have k : (wrE S x != 0) = true := by simpa using e
    have H1 := hid h
    clear e e1 h hv
    generalize wrE S x = E at *
    unfold PT at *
    go_enter Try.func20, Try.ntmps20
    go_wp2_with (go_at_call 30; refine (HT.out).mono ?_; rintro e w2 ⟨rfl, e2⟩; rw [e2]; clear e2 w2)
    go_ret
    exact ⟨rfl, H1.out, HS.out⟩
theorem done_nil (w : World) (x : Int) (f : Bool) : Calls Try.prog 20 #[.pointer none, .int .i64 x, .bool f] w fun e w' => e = .returned (.int .i64 1) ∧ w' = w := by
  have HT := hid (tell_nil w x)
  go_enter Try.func20, Try.ntmps20
  go_wp2_with (go_at_call 30; refine (HT.out).mono ?_; rintro e w2 ⟨rfl, e2⟩; rw [e2]; clear e2 w2)
  go_ret
  exact ⟨rfl, rfl⟩
def stV (S : Br) (x : Int) : Int := if isT x then S.st else 0
theorem state_ (h : Bk w b S) (x : Int) : Calls Try.prog 24 #[PT b, .int .i64 x] w fun e w' => e = .returned (.int .i64 (stV S x)) ∧ w' = w := by
  have H1 := hid (is_ x)
  obtain ⟨c0, c1, c2, c3, c4, c5, cf⟩ := h.c
  clear h
  unfold PT stV at *
  cases k : isT x with
  | true =>
    rw [k] at H1
    rw [if_pos rfl]
    clear k
    go_enter Try.func24, Try.ntmps24
    go_wp2_with (go_at_call 34; refine (H1.out _).mono ?_; rintro e w2 ⟨rfl, e2⟩; rw [e2]; clear e2 w2)
    go_ret
    exact ⟨rfl, rfl⟩
  | false =>
    rw [k] at H1
    rw [if_neg (by simp)]
    clear k
    go_enter Try.func24, Try.ntmps24
    go_wp2_with (go_at_call 34; refine (H1.out _).mono ?_; rintro e w2 ⟨rfl, e2⟩; rw [e2]; clear e2 w2)
    go_ret
    exact ⟨rfl, rfl⟩
theorem state_nil (w : World) (x : Int) : Calls Try.prog 24 #[.pointer none, .int .i64 x] w fun e w' => e = .returned (.int .i64 0) ∧ w' = w := by
  go_enter Try.func24, Try.ntmps24
  go_wp2
  go_ret
  exact ⟨rfl, rfl⟩
def unV (S : Br) : Int := if S.st = 2 then S.un else 0
theorem until_ (h : Bk w b S) : Calls Try.prog 23 #[PT b] w fun e w' => e = .returned (.tuple #[.int .i64 (unV S), .bool (S.st == 2)]) ∧ w' = w := by
  obtain ⟨c0, c1, c2, c3, c4, c5, cf⟩ := h.c
  clear h
  unfold PT unV at *
  by_cases k : S.st = 2
  · rw [if_pos k, show (S.st == 2) = true by simp [k]]
    have k2 : (S.st != 2) = false := by simp [k]
    clear k
    go_enter Try.func23, Try.ntmps23
    go_wp2
    exact bodyPost_ret (v := .tuple #[.int .i64 S.un, .bool true]) (by simp [results, Try.results23, go_sem]) rfl ⟨rfl, rfl⟩
  · rw [if_neg k, show (S.st == 2) = false by simp [k]]
    have k2 : (S.st != 2) = true := by simp [k]
    clear k
    go_enter Try.func23, Try.ntmps23
    go_wp2
    exact bodyPost_ret (v := .tuple #[.int .i64 0, .bool false]) (by simp [results, Try.results23, go_sem]) rfl ⟨rfl, rfl⟩
theorem until_nil (w : World) : Calls Try.prog 23 #[.pointer none] w fun e w' => e = .returned (.tuple #[.int .i64 0, .bool false]) ∧ w' = w := by
  go_enter Try.func23, Try.ntmps23
  go_wp2
  exact bodyPost_ret (v := .tuple #[.int .i64 0, .bool false]) (by simp [results, Try.results23, go_sem]) rfl ⟨rfl, rfl⟩
theorem clone_ (h : Bk w b S) : Calls Try.prog 19 #[PT b] w fun e w' => e = .returned (PT w.heap.size) ∧ Bk w' w.heap.size S ∧ Touch [] w w' := by
  have hb := h.lt
  obtain ⟨c0, c1, c2, c3, c4, c5, cf⟩ := h.c
  have HB : Hid (Bk (w.alloc (.cells (bc S) 73)) w.heap.size S) := hid (heap_alloc_new w _)
  clear h
  unfold PT bc at *
  go_enter Try.func19, Try.ntmps19
  go_wp2
  go_ret
  exact ⟨rfl, HB.out, (Touch.refl _ _).alloc _⟩
theorem clone_nil (w : World) : Calls Try.prog 19 #[.pointer none] w fun e w' => e = .returned (.pointer none) ∧ w' = w := by
  go_enter Try.func19, Try.ntmps19
  go_wp2
  go_ret
  exact ⟨rfl, rfl⟩
theorem new_no (w : World) (f c : Int) (h : f < 1 ∨ c < 0) : Calls Try.prog 16 #[.int .i64 f, .int .i64 c] w fun e w' => e = .returned (.tuple #[.pointer none, .int .i64 1]) ∧ w' = w := by
  by_cases h1 : f < 1
  · clear h
    go_enter Try.func16, Try.ntmps16
    go_wp2
    exact bodyPost_ret (v := .tuple #[.pointer none, .int .i64 1]) (by simp [results, Try.results16, go_sem]) rfl ⟨rfl, rfl⟩
  · have h2 : c < 0 := by omega
    clear h
    go_enter Try.func16, Try.ntmps16
    go_wp2
    exact bodyPost_ret (v := .tuple #[.pointer none, .int .i64 1]) (by simp [results, Try.results16, go_sem]) rfl ⟨rfl, rfl⟩
def br0 (f c : Int) : Br := ⟨f, c, 1, 0, 0, 0⟩
theorem new_yes (w : World) (f c : Int) (h1 : 1 ≤ f) (h2 : 0 ≤ c) : Calls Try.prog 16 #[.int .i64 f, .int .i64 c] w fun e w' => e = .returned (.tuple #[PT w.heap.size, .int .i64 0]) ∧ Bk w' w.heap.size (br0 f c) ∧ Touch [] w w' := by
  have HB : Hid (Bk (w.alloc (.cells (bc (br0 f c)) 73)) w.heap.size (br0 f c)) := hid (heap_alloc_new w _)
  unfold PT br0 bc at *
  go_enter Try.func16, Try.ntmps16
  go_wp2
  exact bodyPost_ret (v := .tuple #[.pointer (some ⟨w.heap.size, 0, none⟩), .int .i64 0]) (by simp [results, Try.results16, go_sem]) rfl ⟨rfl, HB.out, (Touch.refl _ _).alloc _⟩
end
end Go.Proofs.Ytkodabhkhifggaa
