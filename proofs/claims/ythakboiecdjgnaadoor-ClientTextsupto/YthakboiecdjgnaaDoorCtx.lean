/- The text of a program, line by line, whatever a line's text is; the conditions: the table holds what the start lays, the program may be, and each line has its text. -/
import Derived.Test.YthakboiecdjgnaaDoorCaw
namespace Go.Proofs.YthakboiecdjgnaaDoor.Ci
open Go.RowKit Go.Maps Go.ChangeMaps
set_option linter.unusedVariables false
theorem wr_touch {B b : Nat} {w2 u w' : World} (t : Touch [] w2 u) (hB : B = w2.heap.size) (h : Wr B b u w') : Touch [] w2 w' := by
  subst hB
  exact Touch.of_below ((t.below (fun k hk => by cases hk) (Nat.le_refl _)).trans h.below)
theorem string_any {B b : Nat} {l : List UInt8} {w w0 : World} (h : Bd B b l w) (t : Touch [] w0 w) (hB : B = w0.heap.size) :
    Calls Tryd.prog 34 #[.pointer (some ⟨b, 0, none⟩)] w fun e w' => e = .returned (.string ⟨l.toArray⟩) ∧ Touch [] w0 w' :=
  (Tryd.Builder_String_any_f B b l w h.1 h.2.1).mono fun e w' ⟨he, h1, h2⟩ => ⟨he, by subst hB; exact Touch.of_below ((t.below (fun k hk => by cases hk) (Nat.le_refl _)).trans h2)⟩
def nlB (d : Dz) : Bool := decide (0 ≤ Lib.indexByte d.nm.data.toList 10)
def txtL (ln : Dz → ByteArray) (L : List Dz) : List UInt8 := L.flatMap fun x => (ln x).data.toList ++ [10]
def textZ (ln : Dz → ByteArray) (L : List Dz) : ByteArray × Nat × Int := match L.findIdx? nlB with | some i => (⟨#[]⟩, i, 212) | none => (⟨(txtL ln L).toArray⟩, 0, 0)
theorem text_at {ln : Dz → ByteArray} {L : List Dz} (i : Nat) (hi : i < L.length) (hb : ∀ j, (hj : j < L.length) → j < i → nlB L[j] = false) (hn : nlB L[i] = true) : textZ ln L = (⟨#[]⟩, i, 212) := by
  unfold textZ
  have : L.findIdx? nlB = some i := by
    rw [List.findIdx?_eq_some_iff_getElem]
    refine ⟨hi, hn, fun j hj => ?_⟩
    have := hb j (by omega) hj
    simp [this]
  rw [this]
theorem text_end {ln : Dz → ByteArray} {L : List Dz} (hb : ∀ j, (hj : j < L.length) → nlB L[j] = false) : textZ ln L = (⟨(txtL ln L).toArray⟩, 0, 0) := by
  unfold textZ
  have : L.findIdx? nlB = none := by
    rw [List.findIdx?_eq_none_iff]
    intro x hx
    obtain ⟨j, hj, rfl⟩ := List.getElem_of_mem hx
    exact hb j hj
  rw [this]
theorem txt_snoc (ln : Dz → ByteArray) (L : List Dz) (j : Nat) (h : j < L.length) : txtL ln (L.take (j + 1)) = txtL ln (L.take j) ++ (ln L[j] ++ ⟨#[10]⟩).data.toList := by
  rw [List.take_succ_eq_append_getElem h]
  unfold txtL
  rw [List.flatMap_append, List.flatMap_singleton]
  simp
theorem txt_len (ln : Dz → ByteArray) (M : Nat) : ∀ (L : List Dz), (∀ x ∈ L, (ln x).size ≤ M) → (txtL ln L).length ≤ L.length * (M + 1) := by
  intro L
  induction L with
  | nil => intro _; simp [txtL]
  | cons a r ih =>
    intro h
    have h1 := h a (by simp)
    have h2 := ih (fun x hx => h x (by simp [hx]))
    unfold txtL at h2 ⊢
    have h3 : (ln a).data.toList.length = (ln a).size := by rw [Array.length_toList]; rfl
    simp only [List.flatMap_cons, List.length_append, List.length_cons, List.length_nil, Nat.succ_mul] at h2 ⊢
    omega
set_option maxRecDepth 20000 in
set_option maxHeartbeats 2000000 in
theorem text_ (ln : Dz → ByteArray) (L : List Dz) (a : Option Addr) (c : Nat) (w : World) (hk : Kd w) (hs : Sl w a L) (hw : Oks L) (hg : Good L) (hz : ∀ x ∈ L, (ln x).size ≤ 1000)
    (hln : ∀ x ∈ L, ∀ w', Touch [] w w' → Calls Tryd.prog 33 #[.agg #[.int .i64 x.op, .int .u16 x.sp, .string x.nm, .int .i64 x.n, .int .i64 x.sl]] w' fun e w'' => e = .returned (.string (ln x)) ∧ Touch [] w' w'') :
    Calls Tryd.prog 10 #[.slice a L.length c] w fun e w' => e = .returned (.tuple #[.string (textZ ln L).1, .int .i64 (textZ ln L).2.1, .int .i64 (textZ ln L).2.2]) ∧ Touch [] w w' := by
  have HS : Hid (Kd w ∧ Sl w a L ∧ Oks L ∧ L.length ≤ 256 ∧ (∀ x ∈ L, (ln x).size ≤ 1000) ∧ (∀ x ∈ L, ∀ w', Touch [] w w' → Calls Tryd.prog 33 #[.agg #[.int .i64 x.op, .int .u16 x.sp, .string x.nm, .int .i64 x.n, .int .i64 x.sl]] w' fun e w'' => e = .returned (.string (ln x)) ∧ Touch [] w' w'')) := ⟨hk, hs, hw, hg.1, hz, hln⟩
  have HC : Hid (Calls Tryd.prog 7 #[.slice a L.length c] w fun e w' => e = .returned (.tuple #[.int .i64 0, .int .i64 0]) ∧ Touch [] w w') := (check_ L a c w hk hs hw (by have := hg.1; omega)).mono fun e w' ⟨he, t⟩ => ⟨by rw [he, chk_fst hg]; rfl, t⟩
  have hle : (L.length : Int) ≤ 256 := by have := hg.1; omega
  clear hk hs hw hg hz hln
  go_enter Tryd.func10, Tryd.ntmps10
  go_wp2_with fail
  refine HC.out.mono ?_
  rintro e w2 ⟨rfl, t2⟩
  have T2 : Hid (Touch [] w w2) := t2
  clear t2 HC
  go_wp2_with fail
  have HB : Hid (Bd w2.heap.size w2.heap.size [] (w2.alloc (.cells #[.pointer none, .slice none 0 0] 89))) := Bd.new w2
  have HV : Hid (Touch [] w2 (w2.alloc (.cells #[.pointer none, .slice none 0 0] 89))) := (Touch.refl [] w2).alloc _
  generalize w2.alloc (.cells #[.pointer none, .slice none 0 0] 89) = V at *
  go_loopw [21] (fun i wr => ∃ j : Nat, i = .int .i64 j ∧ j ≤ L.length ∧ Hid (∀ k, (hk : k < L.length) → k < j → nlB L[k] = false) ∧ Hid (Touch [] w2 wr) ∧ Hid (Bd w2.heap.size w2.heap.size (txtL ln (L.take j)) wr)) (fun i _ => L.length - (intOf i).toNat)
  case atStart => exact ⟨0, rfl, Nat.zero_le _, fun k _ h => absurd h (Nat.not_lt_zero _), HV, by rw [List.take_zero]; exact HB⟩
  case round =>
    obtain ⟨j, rfl, hj, HN, HG, HD⟩ := hrel
    by_cases hlt : j < L.length
    · have hz : (j : Int) < (L.length : Int) := by omega
      obtain ⟨b, off, rfl, c0, c1, c2, c3, c4⟩ := (HS.out.2.1.touch (T2.out.trans' HG.out)) j hlt
      have HL : Hid _ := fun w' (hg : Touch [] wr w') => HS.out.2.2.2.2.2 L[j] (List.getElem_mem hlt) w' ((T2.out.trans' HG.out).trans' hg)
      have HT : Hid _ := fun w' => Tryd.strings_Contains_one L[j].nm 10 w'
      obtain ⟨vb, hvb⟩ : ∃ vb, decide (0 ≤ Lib.indexByte L[j].nm.data.toList 10) = vb := ⟨_, rfl⟩
      have HX : Hid (nlB L[j] = vb) := hvb
      rw [hvb] at HT
      clear hvb
      have HZ : Hid ((ln L[j]).size ≤ 1000) := HS.out.2.2.2.2.1 L[j] (List.getElem_mem hlt)
      have HP : Hid (txtL ln (L.take (j + 1)) = txtL ln (L.take j) ++ (ln L[j] ++ ⟨#[10]⟩).data.toList) := txt_snoc ln L j hlt
      have HQ : Hid ((txtL ln (L.take j)).length ≤ 256 * 1001) := by
        have h1 := txt_len ln 1000 (L.take j) (fun x hx => HS.out.2.2.2.2.1 x (List.mem_of_mem_take hx))
        have h2 : (L.take j).length ≤ 256 := by rw [List.length_take]; have := HS.out.2.2.2.1; omega
        exact Nat.le_trans h1 (Nat.mul_le_mul_right 1001 h2)
      generalize ln L[j] = S at *
      generalize L[j].op = x0 at *
      generalize L[j].sp = x1 at *
      generalize L[j].nm = x2 at *
      generalize L[j].n = x3 at *
      generalize L[j].sl = x4 at *
      have ea : ∀ w, (Op.stringOp .add S ⟨#[10]⟩).run Tryd.prog w = .ok (.string (S ++ ⟨#[10]⟩)) w := fun w => run_string_add_sum w _ _ (by have h2 : (ByteArray.mk #[10]).size = 1 := rfl; have := HZ.out; omega)
      have hy : (S ++ ⟨#[10]⟩ : ByteArray).size ≤ 1001 := by rw [ByteArray.size_append]; have h2 : (ByteArray.mk #[10]).size = 1 := rfl; have := HZ.out; omega
      have HY : Hid ((S ++ ⟨#[10]⟩ : ByteArray).size ≤ 1001) := hy
      clear hy
      cases vb with
      | true =>
        have HE : Hid (textZ ln L = (⟨#[]⟩, j, 212)) := text_at j hlt (fun k hk h => HN.out k hk h) HX.out
        go_wp2_with fail
        refine (HT.out _).mono ?_
        rintro e w3 ⟨rfl, e3⟩
        rw [e3]
        clear e3 w3
        go_wp2_with fail
        go_ret3
        exact ⟨by rw [HE.out]; rfl, (T2.out.trans' HG.out).alloc _⟩
      | false =>
        go_wp2_with fail
        refine (HT.out _).mono ?_
        rintro e w3 ⟨rfl, e3⟩
        rw [e3]
        clear e3 w3
        go_wp2_with fail
        refine (HL.out _ ((Touch.refl [] wr).alloc _)).mono ?_
        rintro e w4 ⟨rfl, t4⟩
        have HG4 : Hid (Touch [] w2 w4) := (HG.out.alloc _).trans' t4
        have HD4 : Hid (Bd w2.heap.size w2.heap.size (txtL ln (L.take j)) w4) := (HD.out.touch ((Touch.refl [] wr).alloc _)).touch t4
        clear t4
        have HW : Hid (Calls Tryd.prog 32 #[.pointer (some ⟨w2.heap.size, 0, none⟩), .string (S ++ ⟨#[10]⟩)] w4 fun e w' => e = .returned (.tuple #[.int .i64 (S ++ ⟨#[10]⟩ : ByteArray).size, .nilIface]) ∧ Bd w2.heap.size w2.heap.size (txtL ln (L.take j) ++ (S ++ ⟨#[10]⟩ : ByteArray).data.toList) w' ∧ Wr w2.heap.size w2.heap.size w4 w') := by
          have h1 := HQ.out
          have h2 := HY.out
          exact write_ HD4.out (S ++ ⟨#[10]⟩) (by omega)
        generalize (S ++ ⟨#[10]⟩ : ByteArray) = S2 at *
        generalize txtL ln (L.take j) ++ S2.data.toList = X2 at *
        go_wp2_with fail
        refine HW.out.mono ?_
        rintro e w5 ⟨rfl, b5, r5⟩
        go_wp2_with fail
        go_roundw
        case rel => exact ⟨j + 1, by go_num, by omega, fun k hk h => (by rcases (by omega : k < j ∨ k = j) with h' | rfl; exact HN.out k hk h'; exact HX.out), wr_touch HG4.out rfl r5, by rw [HP.out]; exact b5⟩
        case measure => simp [intOf]; omega
    · have hz : ¬ (j : Int) < (L.length : Int) := by omega
      have HE : Hid (textZ ln L = (⟨(txtL ln L).toArray⟩, 0, 0)) := text_end (fun k hk => HN.out k hk (by omega))
      have HE2 : Hid (L.take j = L) := List.take_of_length_le (by omega)
      go_wp2_with fail
      refine (string_any HD.out HG.out rfl).mono ?_
      rintro e w6 ⟨rfl, t6⟩
      go_wp2_with fail
      go_ret3
      exact ⟨by rw [HE.out, HE2.out]; rfl, T2.out.trans' t6⟩
end Go.Proofs.YthakboiecdjgnaaDoor.Ci
