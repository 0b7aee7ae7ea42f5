/- What builds a replacer out of six texts; no conditions but those that each states. -/
import Derived.Test.YtlffleigahfdlaaGreatDoorEpb
namespace Go.Proofs.YtlffleigahfdlaaGreatDoor.Tr
open Go.RowKit Go.Shelf Go.Maps Go.ChangeMaps
set_option linter.unusedVariables false
set_option linter.unusedSimpArgs false
/-- What stands for each byte, when k of the three have been laid; and those that have. -/
def pp (k j : Nat) : Option (List Value) := if j = 37 ∧ 1 ≤ k then some [.int .u8 37, .int .u8 50, .int .u8 53] else if j = 13 ∧ 2 ≤ k then some [.int .u8 37, .int .u8 48, .int .u8 100] else if j = 10 ∧ 3 ≤ k then some [.int .u8 37, .int .u8 48, .int .u8 97] else none
theorem pp1 (j : Nat) : pp 1 j = if j = 37 then some [.int .u8 37, .int .u8 50, .int .u8 53] else pp 0 j := by
  unfold pp
  by_cases a : j = 37
  · subst a; rfl
  · by_cases b : j = 13
    · subst b; rfl
    · by_cases c : j = 10
      · subst c; rfl
      · simp [a, b, c]
theorem pp2 (j : Nat) : pp 2 j = if j = 13 then some [.int .u8 37, .int .u8 48, .int .u8 100] else pp 1 j := by
  unfold pp
  by_cases a : j = 37
  · subst a; rfl
  · by_cases b : j = 13
    · subst b; rfl
    · by_cases c : j = 10
      · subst c; rfl
      · simp [a, b, c]
theorem pp3 (j : Nat) : pp 3 j = if j = 10 then some [.int .u8 37, .int .u8 48, .int .u8 97] else pp 2 j := by
  unfold pp
  by_cases a : j = 37
  · subst a; rfl
  · by_cases b : j = 13
    · subst b; rfl
    · by_cases c : j = 10
      · subst c; rfl
      · simp [a, b, c]
def ll (k : Nat) : List Value := [Value.string ⟨#[37]⟩, .string ⟨#[13]⟩, .string ⟨#[10]⟩].take k
def Rp (w : World) (B : Nat) (p : Option (List Value)) (u : Value) : Prop := match p with
  | none => u = .slice none 0 0
  | some s => ∃ g c, u = .slice (some ⟨g, 0, none⟩) s.length c ∧ s.length ≤ c ∧ B ≤ g ∧ ∃ bs z, w.heap[g]? = some (.cells bs 5 z) ∧ ∀ (i : Nat) (x : Value), s[i]? = some x → bs[i]? = some x
theorem Rp.keep {w w' : World} {B : Nat} {p : Option (List Value)} {u : Value} {F : List Nat} (h : Rp w B p u) (T : Touch F w w') (hF : ∀ g bs z, g ∈ F → w.heap[g]? = some (.cells bs 5 z) → False) : Rp w' B p u := by
  cases p with
  | none => exact h
  | some s =>
    obtain ⟨g, c, h1, h2, h3, bs, z, h4, h5⟩ := h
    exact ⟨g, c, h1, h2, h3, bs, z, T.keep h4 (fun hm => hF g bs z hm h4), h5⟩
def Br (w : World) (B r : Nat) (k : Nat) : Prop := ∃ f v, w.heap[r]? = some (.cells (bc f v) 242 (0, 0)) ∧ B ≤ r ∧ w.ownsRow B 9 1 v k (ll k) ∧ ∀ j, j < 256 → Rp w B (pp k j) (f j)
theorem info9 : (Tryz.prog.info? 9).map (fun i => (i.zero, i.size, i.bytes)) = some (some (.string ⟨#[]⟩), 1, 16) := by kernel_rfl
theorem rs_new {w : World} {c : Array Value} {t k g : Nat} (hs : c.size = k) (hg : g = w.heap.size) : Rs t k (w.alloc (.cells c t)) (.slice (some ⟨g, 0, none⟩) 1 1) 1 c.toList := by
  subst hg
  exact Rs.new w c t k hs
theorem own_ty {w : World} {B e n k : Nat} {v : Value} {xs : List Value} (h : w.ownsRow B e k v n xs) {q : Nat} (hq : q ∈ v.ownBlock.toList) : ∃ cur, w.heap[q]? = some (.cells cur e (0, 0)) ∧ B ≤ q := by
  rcases h with ⟨h1, ⟨e1, e2⟩ | ⟨g, cap, cur, rfl, hg, hc, hn, hm, hs, ht⟩⟩
  · subst e1
    simp [Value.ownBlock] at hq
  · simp [Value.ownBlock] at hq
    subst hq
    exact ⟨cur, hc, hg⟩
theorem br_app {V w2 w3 : World} {B r k : Nat} {f : Nat → Value} {v v3 : Value} {o1 o2 : Obj} {L L3 : List Value} {p : Nat → Option (List Value)} (t2 : Touch [] V w2) (hB : V.heap.size ≤ B) (hb : w2.heap[r]? = some (.cells (bc f v) 242 (0, 0)))
    (ho : w2.ownsRow B 9 1 v k L) (hp : ∀ j, j < 256 → Rp w2 B (p j) (f j)) (g3 : ((w2.alloc o1).alloc o2).grownBy w3 v.ownBlock) (o3 : w3.ownsRow B 9 1 v3 (k + 1) L3) :
    w3.heap[r]? = some (.cells (bc f v) 242 (0, 0)) ∧ Touch [] V w3 ∧ (∀ j, j < 256 → Rp w3 B (p j) (f j)) ∧ w3.ownsRow B 9 1 v3 (k + 1) L3 := by
  have T : Touch v.ownBlock.toList w2 w3 := (((Touch.refl v.ownBlock.toList w2).alloc o1).alloc o2).grown g3 (fun q hq => Or.inl (by simp [hq]))
  refine ⟨T.keep hb (fun hm => ?_), t2.trans T (fun q hq => Or.inr ?_), fun j hj => (hp j hj).keep T (fun g bs z hg hh => ?_), o3⟩
  · obtain ⟨cur, h, _⟩ := own_ty ho hm
    rw [hb] at h
    simp at h
  · obtain ⟨cur, _, h⟩ := own_ty ho hq
    omega
  · obtain ⟨cur, h, _⟩ := own_ty ho hg
    rw [hh] at h
    simp at h
theorem toB (w : World) (s : ByteArray) (n : Nat) (l : List Value) (hn : s.size = n) (hl : l = s.data.toList.map (fun b => Value.int .u8 (b.toNat : Int))) : ∃ g c w', (convert 9 96 (.string s)).run Tryz.prog w = .ok (.slice (some ⟨g, 0, none⟩) n c) w' ∧ n ≤ c ∧ w.heap.size ≤ g ∧ (∃ bs z, w'.heap[g]? = some (.cells bs 5 z) ∧ ∀ (i : Nat) (x : Value), l[i]? = some x → bs[i]? = some x) ∧ Touch [] w w' := by
  subst hn hl
  refine ⟨_, _, _, run_bytes_of_string w 9 96 5 s Tryz.underlying9 Tryz.underlying96 Tryz.underlying5, grownCap_ge _ _ _ _, Nat.le_refl _, ⟨_, _, heap_alloc_new w.drew _, fun i x hx => ?_⟩, ((Touch.refl [] w).drew).alloc _⟩
  rw [List.getElem?_map] at hx
  obtain ⟨y, hy, rfl⟩ := Option.map_eq_some_iff.1 hx
  have hi : i < s.data.size := by
    have := (List.getElem?_eq_some_iff.1 hy).1
    simpa using this
  rw [bytesRow_at s _ i hi]
  rw [Array.getElem?_toList, Array.getElem?_eq_getElem hi] at hy
  cases hy
  rfl
theorem br_end {V w3 w5 : World} {B r k o g5 c5 n : Nat} {f : Nat → Value} {v v3 : Value} {L3 s : List Value} {p : Nat → Option (List Value)} (hV : V.heap.size ≤ B) (hr : V.heap.size ≤ r) (ho : o < 256) (hn : s.length = n) (hB : B ≤ w3.heap.size)
    (H : w3.heap[r]? = some (.cells (bc f v) 242 (0, 0)) ∧ Touch [] V w3 ∧ (∀ j, j < 256 → Rp w3 B (p j) (f j)) ∧ w3.ownsRow B 9 1 v3 (k + 1) L3)
    (h1 : n ≤ c5) (h2 : (w3.setCell ⟨r, 256, none⟩ v3).heap.size ≤ g5) (h3 : ∃ bs z, w5.heap[g5]? = some (.cells bs 5 z) ∧ ∀ (i : Nat) (x : Value), s[i]? = some x → bs[i]? = some x) (h4 : Touch [] (w3.setCell ⟨r, 256, none⟩ v3) w5) :
    w5.heap[r]? = some (.cells (bc f v3) 242 (0, 0)) ∧ (w5.setCell ⟨r, o, none⟩ (.slice (some ⟨g5, 0, none⟩) n c5)).heap[r]? = some (.cells (bc (fun j => if j = o then .slice (some ⟨g5, 0, none⟩) n c5 else f j) v3) 242 (0, 0)) ∧ Touch [] V (w5.setCell ⟨r, o, none⟩ (.slice (some ⟨g5, 0, none⟩) n c5)) ∧
    (∀ j, j < 256 → Rp (w5.setCell ⟨r, o, none⟩ (.slice (some ⟨g5, 0, none⟩) n c5)) B (if j = o then some s else p j) (if j = o then .slice (some ⟨g5, 0, none⟩) n c5 else f j)) ∧ (w5.setCell ⟨r, o, none⟩ (.slice (some ⟨g5, 0, none⟩) n c5)).ownsRow B 9 1 v3 (k + 1) L3 := by
  subst hn
  obtain ⟨q1, q2, q3, q4⟩ := H
  have a1 := bset q1 (i := 256) v3
  rw [bc_setv] at a1
  have a2 := h4.keep a1 (by simp)
  have a3 := bset a2 (i := o) (.slice (some ⟨g5, 0, none⟩) s.length c5)
  rw [bc_set _ _ _ ho] at a3
  have t1 : Touch [r] w3 (w3.setCell ⟨r, 256, none⟩ v3) := (Touch.refl [r] w3).setCell (Or.inl (by simp)) _
  have t2 : Touch [r] w3 (w5.setCell ⟨r, o, none⟩ (.slice (some ⟨g5, 0, none⟩) s.length c5)) := (t1.trans h4 (by simp)).setCell (Or.inl (by simp)) _
  have nr : ∀ q bs z t, w3.heap[q]? = some (.cells bs t z) → t ≠ 242 → q ≠ r := fun q bs z t hq ht e => by
    subst e
    rw [q1] at hq
    cases hq
    exact ht rfl
  obtain ⟨bs, z, b1, b2⟩ := h3
  have ng : g5 ≠ r := fun e => by
    subst e
    rw [a2] at b1
    simp at b1
  refine ⟨a2, a3, q2.trans t2 (fun i hi => Or.inr (by simp at hi; omega)), fun j hj => ?_, own_touch q4 t2 (fun q hq hm => ?_)⟩
  · by_cases e : j = o
    · rw [if_pos e, if_pos e]
      refine ⟨g5, c5, rfl, h1, ?_, bs, z, ?_, b2⟩
      · have := t1.size
        omega
      · rw [Below.heap_setCell _ _ _ _ (by simpa using fun e => ng e)]
        exact b1
    · rw [if_neg e, if_neg e]
      refine (q3 j hj).keep t2 (fun g bs z hg hh => ?_)
      simp at hg
      exact nr g bs z 5 hh (by decide) hg
  · simp at hm
    obtain ⟨cur, hc, _⟩ := own_ty q4 (q := q) (by simp [hq])
    exact nr q cur _ 9 hc (by decide) hm
theorem make3 (w : World) : (Instr.makeSlice 178 (.int .i64 0) (.int .i64 3)).run Tryz.prog w = .ok (.slice (some ⟨w.heap.size, 0, none⟩) 0 3) (w.alloc (.cells (madeCells #[.string ⟨#[]⟩] 3) 9)) := by
  obtain ⟨i, hf, h0, h1, h2⟩ := info_parts info9
  have hr := run_make (P := Tryz.prog) w 178 9 i _ Tryz.underlying178 hf h0 .i64 .i64 0 3 (by omega) (by omega) (by rw [h2]; omega) (by omega)
  rw [h1] at hr
  exact hr
theorem conv1b (w : World) (x : UInt8) : (convert 96 9 (.slice (some ⟨w.heap.size, 0, none⟩) 1 1)).run Tryz.prog (w.alloc (.cells #[.int .u8 (x.toNat : Int)] 5)) = .ok (.string ⟨#[x]⟩) (w.alloc (.cells #[.int .u8 (x.toNat : Int)] 5)) := by
  refine run_convert_bytes_back _ 96 9 5 ⟨w.heap.size, 0, none⟩ 1 [x] Tryz.underlying96 Tryz.underlying5 Tryz.underlying9 fun j hj => ?_
  match j, hj with
  | 0, _ => exact cell_at (heap_alloc_new w _) rfl
theorem eqnil (a : Option Addr) (l c : Nat) (w : World) : (binOp .eql 96 (.slice a l c) (.slice none 0 0)).run Tryz.prog w = .ok (.bool a.isNone) w := by
  have h := run_equal_slice_nil w 96 _ a l c Tryz.underlying96
  simp [binOp, h]
set_option maxRecDepth 100000 in
set_option maxHeartbeats 4000000 in
theorem build_ {w : World} {b g m : Nat} (h4 : w.cell? ⟨b, 4, none⟩ = some (.slice (some ⟨g, 0, none⟩) 6 m)) (hm : 6 ≤ m) (hR : Six w g) :
    Calls Tryz.prog 166 #[PT b] w fun e w' => ∃ r, e = .returned (.iface 243 (PT r)) ∧ Br w' w.heap.size r 3 ∧ Touch [] w w' := by
  have c0 := hR.cell (j := 0) rfl
  have c1 := hR.cell (j := 1) rfl
  have c2 := hR.cell (j := 2) rfl
  have c3 := hR.cell (j := 3) rfl
  have c4 := hR.cell (j := 4) rfl
  have c5 := hR.cell (j := 5) rfl
  unfold PT
  go_enter Tryz.func166, Tryz.ntmps166
  go_wp2_with fail
  go_loopw [4, 5] (fun t i wr => ∃ j : Nat, i = .int .i64 (2 * j) ∧ t = .bool (decide (j = 0)) ∧ j ≤ 3 ∧ wr = w) (fun _ i _ => 6 - (intOf i).toNat)
  case atStart => exact ⟨0, rfl, rfl, by omega, rfl⟩
  case round =>
    obtain ⟨j, rfl, rfl, hj, rfl⟩ := hrel
    rcases (by omega : j = 0 ∨ j = 1 ∨ j = 2 ∨ j = 3) with rfl | rfl | rfl | rfl
    · go_wp2_with fail
      go_roundw
      case rel => exact ⟨1, by go_num, by simp, by omega, by simp⟩
      case measure => simp [intOf]
    · go_wp2_with fail
      go_roundw
      case rel => exact ⟨2, by go_num, by simp, by omega, by simp⟩
      case measure => simp [intOf]
    · go_wp2_with fail
      go_roundw
      case rel => exact ⟨3, by go_num, by simp, by omega, by simp⟩
      case measure => simp [intOf]
    · have hmk := make3 wr
      have hzb := zeroB
      have HM : Hid ((wr.alloc (.cells (madeCells #[.string ⟨#[]⟩] 3) 9)).ownsRow wr.heap.size 9 1 (.slice (some ⟨wr.heap.size, 0, none⟩) 0 3) 0 []) := hid (World.ownsRow_made (e := 9) (size := 1) wr _ 3 (Nat.le_refl _) (by unfold maxLen; omega) (size_madeCells _ _))
      have B0 : Hid (∀ w2, w2.heap[wr.heap.size + 1]? = some (.cells (bc (fun _ => .slice none 0 0) (.slice (some ⟨wr.heap.size, 0, none⟩) 0 3)) 242 (0, 0)) → Touch [wr.heap.size + 1] ((wr.alloc (.cells (madeCells #[.string ⟨#[]⟩] 3) 9)).alloc (.cells (bc (fun _ => .slice none 0 0) (.slice none 0 0)) 242)) w2 → Br w2 wr.heap.size (wr.heap.size + 1) 0 ∧ Touch [] wr w2) := hid (by
        intro w2 hh t
        have own := own_touch (F := []) HM.out ((Touch.refl [] _).alloc (.cells (bc (fun _ => .slice none 0 0) (.slice none 0 0)) 242)) (by simp)
        refine ⟨⟨_, _, hh, by omega, own_touch own t (by simp [Value.ownBlock]), fun j hj => ?_⟩, ((((Touch.refl [] wr).alloc _).alloc _).trans t (fun k hk => Or.inr (by simp at hk; omega)))⟩
        have : pp 0 j = none := by simp [pp]
        rw [this]
        rfl)
      go_wp2_with (first | (refine wpList_bld rfl _ rfl _ _ _ rfl ?_) | (refine wpList_storeT bigB rfl _ _ rfl (wr.heap.size + 1) _ _ 242 rfl rfl (by have := heap_alloc_new (wr.alloc (.cells (madeCells #[.string ⟨#[]⟩] 3) 9)) (.cells (bc (fun _ => .slice none 0 0) (.slice none 0 0)) 242); simpa using this) (bc_size _ _) (bc_size _ _) (bc_one (fun _ => rfl) rfl) ?_; intro w2 h2 t2 s2; have B1 := hid (B0.out w2 h2 t2); clear h2 t2 s2))
      clear hmk hzb B0 HM
      go_loopw [12] (fun i w2 => ∃ k : Nat, i = .int .i64 (4 - 2 * k) ∧ k ≤ 3 ∧ Hid (Br w2 wr.heap.size (wr.heap.size + 1) k ∧ Touch [] wr w2)) (fun i _ => (intOf i + 2).toNat)
      case atStart => exact ⟨0, rfl, by omega, B1⟩
      case round =>
        rename World => w2
        obtain ⟨k, rfl, hk, HB⟩ := hrel
        clear B1
        obtain ⟨⟨f, v, hb, hB, ho, hp⟩, t2⟩ := HB.out
        obtain ⟨av, cv, rfl⟩ := own_form ho
        clear c0 c1 c2 c3 c4 c5
        have hR2 := hR.keep t2 (by simp)
        have c0 := hR2.cell (j := 0) rfl
        have c1 := hR2.cell (j := 1) rfl
        have c2 := hR2.cell (j := 2) rfl
        have c3 := hR2.cell (j := 3) rfl
        have c4 := hR2.cell (j := 4) rfl
        have c5 := hR2.cell (j := 5) rfl
        have cV := cell_at hb (j := 256) (bc_last _ _)
        have e37 : (((⟨#[37]⟩ : ByteArray)[0]'(by decide)).toNat : Int) = 37 := rfl
        have e13 : (((⟨#[13]⟩ : ByteArray)[0]'(by decide)).toNat : Int) = 13 := rfl
        have e10 : (((⟨#[10]⟩ : ByteArray)[0]'(by decide)).toNat : Int) = 10 := rfl
        have heq := eqnil none 0 0
        have hsz := t2.size
        have HI : Hid _ := hid (And.intro t2 (And.intro hb (And.intro ho hp)))
        rcases (by omega : k = 0 ∨ k = 1 ∨ k = 2 ∨ k = 3) with rfl | rfl | rfl | rfl
        · have cN : w2.cell? ⟨wr.heap.size + 1, 37, none⟩ = some (.slice none 0 0) := by
            have e : f 37 = .slice none 0 0 := hp 37 (by omega)
            rw [← e]
            exact cell_at hb (bc_get _ _ (by omega))
          have hv : (convert 96 9 (.slice (some ⟨w2.heap.size, 0, none⟩) 1 1)).run Tryz.prog (w2.alloc (.cells #[.int .u8 37] 5)) = .ok (.string ⟨#[37]⟩) (w2.alloc (.cells #[.int .u8 37] 5)) := conv1b w2 37
          clear hp t2 hb ho
          go_wp2_with (at_builtin; go_must (refine wpList_append_rs rfl _ _ 178 9 rfl (.string ⟨#[]⟩) 1 16 info9 Tryz.underlying178 rfl (by decide) wr.heap.size _ 0 _ rfl (own_touch (F := []) HI.out.2.2.1 (((Touch.refl [] w2).alloc _).alloc _) (by simp)) _ 1 [.string ⟨#[37]⟩] rfl (rs_new (w := w2.alloc (.cells #[.int .u8 37] 5)) (c := #[.string ⟨#[37]⟩]) (g := w2.heap.size + 1) rfl (by simp)) (by simp; rfl) (by unfold maxLen; omega) (by omega) (by simp; omega) ?_; intro v3 w3 o3 g3 b3; have H3 := hid (br_app HI.out.1 (Nat.le_refl _) HI.out.2.1 HI.out.2.2.1 HI.out.2.2.2 g3 o3); obtain ⟨a3, d3, rfl⟩ := own_form o3; clear o3 g3 b3 cN cV c0 c1 c2 c3 c4 c5 heq hv HB; have cV := cell_at H3.out.1 (j := 256) (bc_last _ _); have fz := froz_at H3.out.1; obtain ⟨g5, d5, w5, hr5, l5, m5, n5, t5⟩ := toB (w3.setCell ⟨wr.heap.size + 1, 256, none⟩ (.slice a3 1 d3)) ⟨#[37, 50, 53]⟩ 3 [.int .u8 37, .int .u8 50, .int .u8 53] rfl rfl; have HE := hid (br_end (o := 37) (Nat.le_refl _) (Nat.le_succ _) (by omega) rfl (H3.out.2.1.size) H3.out l5 m5 n5 t5); clear l5 m5 n5 t5; have cN := cell_at HE.out.1 (j := 37) (bc_get _ _ (by omega)); have fz5 := froz_at HE.out.1))
          go_roundw
          case rel => exact ⟨1, by go_num, by omega, hid ⟨⟨_, _, HE.out.2.1, by omega, HE.out.2.2.2.2, fun j hj => by rw [pp1]; exact HE.out.2.2.2.1 j hj⟩, HE.out.2.2.1⟩⟩
          case measure => simp [intOf]
        · have cN : w2.cell? ⟨wr.heap.size + 1, 13, none⟩ = some (.slice none 0 0) := by
            have e : f 13 = .slice none 0 0 := hp 13 (by omega)
            rw [← e]
            exact cell_at hb (bc_get _ _ (by omega))
          have hv : (convert 96 9 (.slice (some ⟨w2.heap.size, 0, none⟩) 1 1)).run Tryz.prog (w2.alloc (.cells #[.int .u8 13] 5)) = .ok (.string ⟨#[13]⟩) (w2.alloc (.cells #[.int .u8 13] 5)) := conv1b w2 13
          clear hp t2 hb ho
          go_wp2_with (at_builtin; go_must (refine wpList_append_rs rfl _ _ 178 9 rfl (.string ⟨#[]⟩) 1 16 info9 Tryz.underlying178 rfl (by decide) wr.heap.size _ 1 _ rfl (own_touch (F := []) HI.out.2.2.1 (((Touch.refl [] w2).alloc _).alloc _) (by simp)) _ 1 [.string ⟨#[13]⟩] rfl (rs_new (w := w2.alloc (.cells #[.int .u8 13] 5)) (c := #[.string ⟨#[13]⟩]) (g := w2.heap.size + 1) rfl (by simp)) (by simp; rfl) (by unfold maxLen; omega) (by omega) (by simp; omega) ?_; intro v3 w3 o3 g3 b3; have H3 := hid (br_app HI.out.1 (Nat.le_refl _) HI.out.2.1 HI.out.2.2.1 HI.out.2.2.2 g3 o3); obtain ⟨a3, d3, rfl⟩ := own_form o3; clear o3 g3 b3 cN cV c0 c1 c2 c3 c4 c5 heq hv HB; have cV := cell_at H3.out.1 (j := 256) (bc_last _ _); have fz := froz_at H3.out.1; obtain ⟨g5, d5, w5, hr5, l5, m5, n5, t5⟩ := toB (w3.setCell ⟨wr.heap.size + 1, 256, none⟩ (.slice a3 2 d3)) ⟨#[37, 48, 100]⟩ 3 [.int .u8 37, .int .u8 48, .int .u8 100] rfl rfl; have HE := hid (br_end (o := 13) (Nat.le_refl _) (Nat.le_succ _) (by omega) rfl (H3.out.2.1.size) H3.out l5 m5 n5 t5); clear l5 m5 n5 t5; have cN := cell_at HE.out.1 (j := 13) (bc_get _ _ (by omega)); have fz5 := froz_at HE.out.1))
          go_roundw
          case rel => exact ⟨2, by go_num, by omega, hid ⟨⟨_, _, HE.out.2.1, by omega, HE.out.2.2.2.2, fun j hj => by rw [pp2]; exact HE.out.2.2.2.1 j hj⟩, HE.out.2.2.1⟩⟩
          case measure => simp [intOf]
        · have cN : w2.cell? ⟨wr.heap.size + 1, 10, none⟩ = some (.slice none 0 0) := by
            have e : f 10 = .slice none 0 0 := hp 10 (by omega)
            rw [← e]
            exact cell_at hb (bc_get _ _ (by omega))
          have hv : (convert 96 9 (.slice (some ⟨w2.heap.size, 0, none⟩) 1 1)).run Tryz.prog (w2.alloc (.cells #[.int .u8 10] 5)) = .ok (.string ⟨#[10]⟩) (w2.alloc (.cells #[.int .u8 10] 5)) := conv1b w2 10
          clear hp t2 hb ho
          go_wp2_with (at_builtin; go_must (refine wpList_append_rs rfl _ _ 178 9 rfl (.string ⟨#[]⟩) 1 16 info9 Tryz.underlying178 rfl (by decide) wr.heap.size _ 2 _ rfl (own_touch (F := []) HI.out.2.2.1 (((Touch.refl [] w2).alloc _).alloc _) (by simp)) _ 1 [.string ⟨#[10]⟩] rfl (rs_new (w := w2.alloc (.cells #[.int .u8 10] 5)) (c := #[.string ⟨#[10]⟩]) (g := w2.heap.size + 1) rfl (by simp)) (by simp; rfl) (by unfold maxLen; omega) (by omega) (by simp; omega) ?_; intro v3 w3 o3 g3 b3; have H3 := hid (br_app HI.out.1 (Nat.le_refl _) HI.out.2.1 HI.out.2.2.1 HI.out.2.2.2 g3 o3); obtain ⟨a3, d3, rfl⟩ := own_form o3; clear o3 g3 b3 cN cV c0 c1 c2 c3 c4 c5 heq hv HB; have cV := cell_at H3.out.1 (j := 256) (bc_last _ _); have fz := froz_at H3.out.1; obtain ⟨g5, d5, w5, hr5, l5, m5, n5, t5⟩ := toB (w3.setCell ⟨wr.heap.size + 1, 256, none⟩ (.slice a3 3 d3)) ⟨#[37, 48, 97]⟩ 3 [.int .u8 37, .int .u8 48, .int .u8 97] rfl rfl; have HE := hid (br_end (o := 10) (Nat.le_refl _) (Nat.le_succ _) (by omega) rfl (H3.out.2.1.size) H3.out l5 m5 n5 t5); clear l5 m5 n5 t5; have cN := cell_at HE.out.1 (j := 10) (bc_get _ _ (by omega)); have fz5 := froz_at HE.out.1))
          go_roundw
          case rel => exact ⟨3, by go_num, by omega, hid ⟨⟨_, _, HE.out.2.1, by omega, HE.out.2.2.2.2, fun j hj => by rw [pp3]; exact HE.out.2.2.2.1 j hj⟩, HE.out.2.2.1⟩⟩
          case measure => simp [intOf]
        · clear hp t2 hb ho heq e37 e13 e10
          go_wp2_with fail
          go_ret
          exact ⟨_, rfl, HB.out⟩
end Go.Proofs.YtlffleigahfdlaaGreatDoor.Tr
